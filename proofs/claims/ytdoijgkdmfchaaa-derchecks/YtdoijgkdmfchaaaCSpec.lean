/-
  Elements all the way down, as a plain function of the bytes: how many there are, how many bytes the first has, or the place and the number of the first error. No Go, no program.
-/
import Derived.Test.YtdoijgkdmfchaaaFindIt
import Derived.Test.YtdoijgkdmfchaaaTake
namespace Go.Proofs.Ytdoijgkdmfchaaa

/-- Is a tag constructed? -/
def consB (t : Int) : Bool := decide (t / 32 % 2 = 1)

/-- How many, how many bytes, the error's place, the error's number. -/
structure Vis where
  many : Nat
  size : Nat
  place : Nat
  err : Int

/-- Elements one behind the other, each looked at by v: how many, the error's place and number. -/
def rowS (v : List Int → Nat → Vis) : Nat → List Int → Nat → Nat × Nat × Int
  | 0, _, _ => (0, 0, 0)
  | n + 1, c, q =>
    if c.length = 0 then (0, 0, 0)
    else if (v c q).err ≠ 0 then (0, (v c q).place, (v c q).err)
    else ((v c q).many + (rowS v n (c.drop (v c q).size) (q + (v c q).size)).1, (rowS v n (c.drop (v c q).size) (q + (v c q).size)).2)

/-- One element that may have d - 1 others around what is in it. -/
def visS : Nat → List Int → Nat → Vis
  | 0, _, p => ⟨0, 0, p, 14⟩
  | d + 1, xs, p =>
    if (findS xs).2.2.2 ≠ 0 then ⟨0, 0, p, (findS xs).2.2.2⟩
    else if consB (findS xs).1 = false then ⟨1, (findS xs).2.2.1.toNat, 0, 0⟩
    else if (rowS (visS d) (contS xs).length (contS xs) (p + (findS xs).2.1.toNat)).2.2 ≠ 0 then ⟨0, 0, (rowS (visS d) (contS xs).length (contS xs) (p + (findS xs).2.1.toNat)).2.1, (rowS (visS d) (contS xs).length (contS xs) (p + (findS xs).2.1.toNat)).2.2⟩
    else ⟨1 + (rowS (visS d) (contS xs).length (contS xs) (p + (findS xs).2.1.toNat)).1, (findS xs).2.2.1.toNat, 0, 0⟩

/-- What v says of sizes. -/
def Fine (v : List Int → Nat → Vis) : Prop := ∀ c q, (∀ x ∈ c, 0 ≤ x ∧ x < 256) → (v c q).err = 0 → 1 ≤ (v c q).size ∧ (v c q).size ≤ c.length ∧ (v c q).many ≤ (v c q).size

theorem row_fuel (v : List Int → Nat → Vis) (hv : Fine v) : ∀ (n m : Nat) (c : List Int) (q : Nat), (∀ x ∈ c, 0 ≤ x ∧ x < 256) → c.length ≤ n → c.length ≤ m → rowS v n c q = rowS v m c q
  | 0, 0, _, _, _, _, _ => rfl
  | 0, m + 1, c, q, _, h, _ => by
    have : c.length = 0 := by omega
    simp [rowS, this]
  | n + 1, 0, c, q, _, _, h => by
    have : c.length = 0 := by omega
    simp [rowS, this]
  | n + 1, m + 1, c, q, hb, h1, h2 => by
    unfold rowS
    by_cases h0 : c.length = 0
    · rw [if_pos h0, if_pos h0]
    · rw [if_neg h0, if_neg h0]
      by_cases he : (v c q).err ≠ 0
      · rw [if_pos he, if_pos he]
      · rw [if_neg he, if_neg he]
        have hf := hv c q hb (by omega)
        rw [row_fuel v hv n m (c.drop (v c q).size) (q + (v c q).size) (fun x hx => hb x (List.mem_of_mem_drop hx)) (by simp; omega) (by simp; omega)]

/-- With all the fuel that is wanted. -/
def rowR (v : List Int → Nat → Vis) (c : List Int) (q : Nat) : Nat × Nat × Int := rowS v c.length c q

theorem rowR_nil (v : List Int → Nat → Vis) (c : List Int) (q : Nat) (h : c.length = 0) : rowR v c q = (0, 0, 0) := by
  unfold rowR; rw [h]; rfl

theorem rowR_bad (v : List Int → Nat → Vis) (c : List Int) (q : Nat) (h : c.length ≠ 0) (he : (v c q).err ≠ 0) : rowR v c q = (0, (v c q).place, (v c q).err) := by
  unfold rowR
  obtain ⟨n, hn⟩ : ∃ n, c.length = n + 1 := ⟨c.length - 1, by omega⟩
  rw [hn, rowS, if_neg h, if_pos he]

theorem rowR_good (v : List Int → Nat → Vis) (hv : Fine v) (c : List Int) (q : Nat) (hb : ∀ x ∈ c, 0 ≤ x ∧ x < 256) (h : c.length ≠ 0) (he : (v c q).err = 0) :
    rowR v c q = ((v c q).many + (rowR v (c.drop (v c q).size) (q + (v c q).size)).1, (rowR v (c.drop (v c q).size) (q + (v c q).size)).2) := by
  unfold rowR
  obtain ⟨n, hn⟩ : ∃ n, c.length = n + 1 := ⟨c.length - 1, by omega⟩
  have hf := hv c q hb he
  have e : rowS v (n + 1) c q = ((v c q).many + (rowS v n (c.drop (v c q).size) (q + (v c q).size)).1, (rowS v n (c.drop (v c q).size) (q + (v c q).size)).2) := by
    rw [rowS, if_neg h, if_neg (by omega)]
  rw [hn, e, row_fuel v hv n (c.drop (v c q).size).length (c.drop (v c q).size) (q + (v c q).size) (fun x hx => hb x (List.mem_of_mem_drop hx)) (by simp; omega) (Nat.le_refl _)]

theorem row_many (v : List Int → Nat → Vis) (hv : Fine v) : ∀ (n : Nat) (c : List Int) (q : Nat), (∀ x ∈ c, 0 ≤ x ∧ x < 256) → (rowS v n c q).1 ≤ c.length
  | 0, _, _, _ => by simp [rowS]
  | n + 1, c, q, hb => by
    unfold rowS
    by_cases h0 : c.length = 0
    · rw [if_pos h0]; simp
    · rw [if_neg h0]
      by_cases he : (v c q).err ≠ 0
      · rw [if_pos he]; simp
      · rw [if_neg he]
        have hf := hv c q hb (by omega)
        have := row_many v hv n (c.drop (v c q).size) (q + (v c q).size) (fun x hx => hb x (List.mem_of_mem_drop hx))
        simp at this
        simp only []
        omega

theorem contS_len (xs : List Int) (l h : Nat) (he : findS xs = (xs.getD 0 0, (l : Int), (h : Int), 0)) (hh : h ≤ xs.length) : (contS xs).length = h - l := by
  unfold contS
  rw [he]
  simp
  omega

theorem contS_mem (xs : List Int) (hb : ∀ x ∈ xs, 0 ≤ x ∧ x < 256) : ∀ x ∈ contS xs, 0 ≤ x ∧ x < 256 := fun x hx => hb x (List.mem_of_mem_take (List.mem_of_mem_drop hx))

theorem vis_fine : ∀ d, Fine (visS d)
  | 0 => fun c q _ he => by simp [visS] at he
  | d + 1 => fun c q hb he => by
    unfold visS at he ⊢
    rcases findS_cases c hb with ⟨err, h1, _, _, hf⟩ | ⟨l, h, hf, h1, h2, h3, h4, h5⟩
    · rw [hf] at he; simp only [] at he; rw [if_pos h1] at he; simp only [] at he; exact absurd he h1
    · have hlen := contS_len c l h hf h4
      have hrow := row_many (visS d) (vis_fine d) (contS c).length (contS c) (q + l) (contS_mem c hb)
      rw [hf] at he ⊢
      simp only [] at he ⊢
      rw [if_neg (by simp)] at he ⊢
      by_cases hc : consB (c.getD 0 0) = false
      · rw [if_pos hc]; simp only []; omega
      · rw [if_neg hc] at he ⊢
        have e1 : ((l : Int)).toNat = l := by omega
        rw [e1] at he ⊢
        by_cases hr : (rowS (visS d) (contS c).length (contS c) (q + l)).2.2 ≠ 0
        · rw [if_pos hr] at he; simp only [] at he; exact absurd he hr
        · rw [if_neg hr]
          simp only []
          omega

theorem vis_zero (xs : List Int) (p : Nat) : visS 0 xs p = ⟨0, 0, p, 14⟩ := rfl

theorem vis_bad (d : Nat) (xs : List Int) (p : Nat) (err : Int) (h : findS xs = (0, 0, 0, err)) (he : err ≠ 0) : visS (d + 1) xs p = ⟨0, 0, p, err⟩ := by
  unfold visS; rw [h, if_pos he]

theorem vis_plain (d : Nat) (xs : List Int) (p : Nat) (t : Int) (l h : Nat) (hf : findS xs = (t, (l : Int), (h : Int), 0)) (hc : consB t = false) : visS (d + 1) xs p = ⟨1, h, 0, 0⟩ := by
  unfold visS; rw [hf]; simp only []; rw [if_neg (by simp), if_pos hc]; simp

theorem vis_deep (d : Nat) (xs : List Int) (p : Nat) (t : Int) (l h : Nat) (hf : findS xs = (t, (l : Int), (h : Int), 0)) (hc : consB t = true) :
    visS (d + 1) xs p = if (rowR (visS d) ((xs.take h).drop l) (p + l)).2.2 ≠ 0 then ⟨0, 0, (rowR (visS d) ((xs.take h).drop l) (p + l)).2.1, (rowR (visS d) ((xs.take h).drop l) (p + l)).2.2⟩
      else ⟨1 + (rowR (visS d) ((xs.take h).drop l) (p + l)).1, h, 0, 0⟩ := by
  have hcs : contS xs = (xs.take h).drop l := by unfold contS; rw [hf]; simp
  rw [visS, hcs, hf]
  simp only []
  rw [if_neg (by simp), if_neg (by rw [hc]; simp)]
  simp [rowR]

end Go.Proofs.Ytdoijgkdmfchaaa
