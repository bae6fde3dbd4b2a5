/-
  Rows of subtrees and of general names that a call owns; append to them.
  Hosts' names, on lists of bytes: labels, what a host's name is, a wild name, a mail address, a network address.
-/
import Derived.Maps.AppendAt
import Derived.Laws.AppendOwnNone
import Derived.Test.YtklchpdpooikdaaGreatDoorXTxR2ToNmLent
import Derived.Test.YtklchpdpooikdaaGreatDoorXROneToRRow
import Derived.Lib.AppendZerosOnto
import Derived.Lib.IndexMore
import Derived.Lib.Index
namespace Go.Proofs.YtklchpdpooikdaaGreatDoor
open Go.RowKit Go.IntWalk Go.Shelf

theorem row_cells {w : World} {base : Nat} {e : TypeId} {g n c : Nat} {xs : List (Int × ByteArray)} (h : w.ownsRow base e 2 (.slice (some ⟨g, 0, none⟩) n c) xs.length (acells xs)) (i : Nat) (hi : i < xs.length) :
    w.cell? ⟨g, i * 2, none⟩ = some (.int .i64 (xs.getD i (0, ByteArray.empty)).1) ∧ w.cell? ⟨g, i * 2 + 1, none⟩ = some (.string (xs.getD i (0, ByteArray.empty)).2) := by
  obtain ⟨h1, h2⟩ := acells_at xs i hi
  have c1 := h.cells (g := g) rfl _ _ h1
  have c2 := h.cells (g := g) rfl _ _ h2
  rw [add_none, Nat.zero_add] at c1 c2
  exact ⟨c1, c2⟩

theorem Tryz.infoT : (Tryz.prog.info? 36).map (fun i => (i.zero, i.size, i.bytes)) = some (some (.agg #[.int .i64 0, .string ⟨#[]⟩]), 2, 24) := by kernel_rfl
/-- A row that the call owns. -/
def OwnT (w : World) (base : Nat) (v : Value) (xs : List (Int × ByteArray)) : Prop := w.ownsRow base 36 2 v xs.length (acells xs)
theorem OwnT.nil (w : World) (base : Nat) : OwnT w base (.slice none 0 0) [] := World.ownsRow_nil _ _ _ _
theorem OwnT.lit (w : World) (base : Nat) (hb : base ≤ w.heap.size) : OwnT (w.alloc (.cells #[] 36)) base (.slice (some ⟨w.heap.size, 0, none⟩) 0 0) [] :=
  ⟨rfl, .inr ⟨w.heap.size, 0, #[], rfl, hb, heap_alloc_new w _, Nat.le_refl _, by decide, rfl, rfl⟩⟩
theorem OwnT.ats {w : World} {base : Nat} {a : Option Addr} {n c : Nat} {xs : List (Int × ByteArray)} (h : OwnT w base (.slice a n c) xs) (hz : ∀ x ∈ xs, x.2.size ≤ 1048576) : Ats w a n c xs := by
  have h' := h
  obtain ⟨h1, ⟨h2, h3⟩ | ⟨g, cap, cur, h2, h3, h4, h5, h6, h7⟩⟩ := h'
  · cases h2
    have hx : xs = [] := by
      have := acells_len xs
      rw [h3] at this
      exact List.eq_nil_of_length_eq_zero (by simp at this; omega)
    subst hx
    exact ⟨rfl, Nat.le_refl _, by decide, by simp, fun h => absurd h (by omega)⟩
  · have e := Value.slice.inj h2
    obtain ⟨rfl, rfl, rfl⟩ := e
    refine ⟨rfl, h5, h6, fun x hx => by have := hz x hx; omega, fun _ => ⟨g, 0, rfl, fun i hi => ?_⟩⟩
    rw [Nat.zero_add]
    exact row_cells h i hi
theorem OwnT.nils {w : World} {base : Nat} {n c : Nat} {xs : List (Int × ByteArray)} (h : OwnT w base (.slice none n c) xs) : n = 0 ∧ c = 0 := by
  obtain ⟨h1, ⟨h2, h3⟩ | ⟨g, cap, cur, h2, _⟩⟩ := h
  · cases h2; exact ⟨rfl, rfl⟩
  · cases h2
theorem OwnT.below {w w' : World} {base : Nat} {v : Value} {xs : List (Int × ByteArray)} (h : OwnT w base v xs) (hb : Below w.heap.size w w') : OwnT w' base v xs := row_below h hb
theorem OwnT.rebase {w : World} {base base' : Nat} {v : Value} {xs : List (Int × ByteArray)} (h : OwnT w base v xs) (hb : base' ≤ base) : OwnT w base' v xs := by
  obtain ⟨hl, h⟩ := h
  refine ⟨hl, ?_⟩
  rcases h with h | ⟨g, cap, cur, rfl, hbg, r⟩
  · exact .inl h
  · exact .inr ⟨g, cap, cur, rfl, by omega, r⟩
/-- 'append(v, x...)', as a step. -/
theorem run_appT (w : World) (ty : TypeId) (base : Nat) (v : Value) (xs : List (Int × ByteArray)) (hown : OwnT w base v xs) (ao : Option Addr) (m c : Nat) (ys : List (Int × ByteArray)) (hsrc : Ats w ao m c ys) (hnil : ao = none → m = 0 ∧ c = 0) (t : Nat) (ht : xs.length + m = t) (hb : t ≤ 4194304) (hbase : base ≤ w.heap.size) :
    ∃ a' c' w', (Builtin.append_ #[22, 22] ty #[v, .slice ao m c]).run Tryz.prog w = .ok (.slice a' t c') w' ∧ OwnT w' base (.slice a' t c') (xs ++ ys) ∧ w.grownBy w' v.ownBlock := by
  subst ht
  have hl := hsrc.hl
  have hly : (xs ++ ys).length = xs.length + m := by rw [List.length_append, hl]
  obtain ⟨i0, hi, hz0, hz1, hz2⟩ := info_parts Tryz.infoT
  have shape : ∀ v' w', OwnT w' base v' (xs ++ ys) → ∃ a' c', v' = .slice a' (xs.length + m) c' := by
    intro v' w' h
    obtain ⟨hh, ⟨h2, h3⟩ | ⟨g, cap, cur, h2, _⟩⟩ := h
    · have : xs.length + m = 0 := by rw [hly] at h3; exact h3
      exact ⟨none, 0, by rw [h2, this]⟩
    · exact ⟨_, cap, by rw [h2, hly]⟩
  cases ao with
  | none =>
    obtain ⟨rfl, rfl⟩ := hnil rfl
    obtain rfl : ys = [] := List.eq_nil_of_length_eq_zero hl
    have hrun := run_append_owned_none (P := Tryz.prog) (w := w) base 22 ty 36 i0 2 Tryz.underlying22 hi v _ _ hown
    have ho : OwnT w base v (xs ++ []) := by simpa using hown
    obtain ⟨a', c', e⟩ := shape v w ho
    refine ⟨a', c', w, ?_, ?_, ⟨rfl, rfl, rfl, Nat.le_refl _, fun _ _ _ => rfl⟩⟩
    · rw [hrun, e]
    · rw [← e]; exact ho
  | some ad =>
    obtain ⟨v', w', h0, h1, h2, _, _⟩ := run_append_own_at (w := w) base 22 ty 36 i0 _ 2 24 Tryz.underlying22 hi hz0 hz1 hz2 rfl (by decide) v _ _ hown ad m c (acells ys) (by rw [acells_len, hl]) hsrc.src (acells_one ys) (by unfold maxLen; omega) (by omega) hbase
    have ho : OwnT w' base v' (xs ++ ys) := by unfold OwnT; rw [hly, acells_app]; exact h1
    obtain ⟨a', c', e⟩ := shape v' w' ho
    subst e
    exact ⟨a', c', w', h0, ho, h2⟩
theorem OwnT.one (W : World) (k : Int) (s : ByteArray) (hs : s.size ≤ 1048576) : Ats (W.alloc (.cells #[.int .i64 k, .string s] 36)) (some ⟨W.heap.size, 0, none⟩) 1 1 [(k, s)] := by
  refine ⟨rfl, Nat.le_refl _, by decide, fun x hx => by simp at hx; subst hx; show s.size + 1 ≤ _; omega, fun _ => ⟨W.heap.size, 0, rfl, fun i hi => ?_⟩⟩
  obtain rfl : i = 0 := by omega
  exact ⟨by simp, by simp⟩

theorem Tryz.infoL : (Tryz.prog.info? 32).map (fun i => (i.zero, i.size, i.bytes)) = some (some (.agg #[.int .i64 0, .string ⟨#[]⟩]), 2, 24) := by kernel_rfl
/-- A row that the call owns. -/
def OwnL (w : World) (base : Nat) (v : Value) (xs : List (Int × ByteArray)) : Prop := w.ownsRow base 32 2 v xs.length (acells xs)
theorem OwnL.nil (w : World) (base : Nat) : OwnL w base (.slice none 0 0) [] := World.ownsRow_nil _ _ _ _
theorem OwnL.lit (w : World) (base : Nat) (hb : base ≤ w.heap.size) : OwnL (w.alloc (.cells #[] 32)) base (.slice (some ⟨w.heap.size, 0, none⟩) 0 0) [] :=
  ⟨rfl, .inr ⟨w.heap.size, 0, #[], rfl, hb, heap_alloc_new w _, Nat.le_refl _, by decide, rfl, rfl⟩⟩
theorem OwnL.ats {w : World} {base : Nat} {a : Option Addr} {n c : Nat} {xs : List (Int × ByteArray)} (h : OwnL w base (.slice a n c) xs) (hz : ∀ x ∈ xs, x.2.size ≤ 1048576) : Ats w a n c xs := by
  have h' := h
  obtain ⟨h1, ⟨h2, h3⟩ | ⟨g, cap, cur, h2, h3, h4, h5, h6, h7⟩⟩ := h'
  · cases h2
    have hx : xs = [] := by
      have := acells_len xs
      rw [h3] at this
      exact List.eq_nil_of_length_eq_zero (by simp at this; omega)
    subst hx
    exact ⟨rfl, Nat.le_refl _, by decide, by simp, fun h => absurd h (by omega)⟩
  · have e := Value.slice.inj h2
    obtain ⟨rfl, rfl, rfl⟩ := e
    refine ⟨rfl, h5, h6, fun x hx => by have := hz x hx; omega, fun _ => ⟨g, 0, rfl, fun i hi => ?_⟩⟩
    rw [Nat.zero_add]
    exact row_cells h i hi
theorem OwnL.nils {w : World} {base : Nat} {n c : Nat} {xs : List (Int × ByteArray)} (h : OwnL w base (.slice none n c) xs) : n = 0 ∧ c = 0 := by
  obtain ⟨h1, ⟨h2, h3⟩ | ⟨g, cap, cur, h2, _⟩⟩ := h
  · cases h2; exact ⟨rfl, rfl⟩
  · cases h2
theorem OwnL.below {w w' : World} {base : Nat} {v : Value} {xs : List (Int × ByteArray)} (h : OwnL w base v xs) (hb : Below w.heap.size w w') : OwnL w' base v xs := row_below h hb
theorem OwnL.rebase {w : World} {base base' : Nat} {v : Value} {xs : List (Int × ByteArray)} (h : OwnL w base v xs) (hb : base' ≤ base) : OwnL w base' v xs := by
  obtain ⟨hl, h⟩ := h
  refine ⟨hl, ?_⟩
  rcases h with h | ⟨g, cap, cur, rfl, hbg, r⟩
  · exact .inl h
  · exact .inr ⟨g, cap, cur, rfl, by omega, r⟩
/-- 'append(v, x...)', as a step. -/
theorem run_appL (w : World) (ty : TypeId) (base : Nat) (v : Value) (xs : List (Int × ByteArray)) (hown : OwnL w base v xs) (ao : Option Addr) (m c : Nat) (ys : List (Int × ByteArray)) (hsrc : Ats w ao m c ys) (hnil : ao = none → m = 0 ∧ c = 0) (t : Nat) (ht : xs.length + m = t) (hb : t ≤ 4194304) (hbase : base ≤ w.heap.size) :
    ∃ a' c' w', (Builtin.append_ #[23, 23] ty #[v, .slice ao m c]).run Tryz.prog w = .ok (.slice a' t c') w' ∧ OwnL w' base (.slice a' t c') (xs ++ ys) ∧ w.grownBy w' v.ownBlock := by
  subst ht
  have hl := hsrc.hl
  have hly : (xs ++ ys).length = xs.length + m := by rw [List.length_append, hl]
  obtain ⟨i0, hi, hz0, hz1, hz2⟩ := info_parts Tryz.infoL
  have shape : ∀ v' w', OwnL w' base v' (xs ++ ys) → ∃ a' c', v' = .slice a' (xs.length + m) c' := by
    intro v' w' h
    obtain ⟨hh, ⟨h2, h3⟩ | ⟨g, cap, cur, h2, _⟩⟩ := h
    · have : xs.length + m = 0 := by rw [hly] at h3; exact h3
      exact ⟨none, 0, by rw [h2, this]⟩
    · exact ⟨_, cap, by rw [h2, hly]⟩
  cases ao with
  | none =>
    obtain ⟨rfl, rfl⟩ := hnil rfl
    obtain rfl : ys = [] := List.eq_nil_of_length_eq_zero hl
    have hrun := run_append_owned_none (P := Tryz.prog) (w := w) base 23 ty 32 i0 2 Tryz.underlying23 hi v _ _ hown
    have ho : OwnL w base v (xs ++ []) := by simpa using hown
    obtain ⟨a', c', e⟩ := shape v w ho
    refine ⟨a', c', w, ?_, ?_, ⟨rfl, rfl, rfl, Nat.le_refl _, fun _ _ _ => rfl⟩⟩
    · rw [hrun, e]
    · rw [← e]; exact ho
  | some ad =>
    obtain ⟨v', w', h0, h1, h2, _, _⟩ := run_append_own_at (w := w) base 23 ty 32 i0 _ 2 24 Tryz.underlying23 hi hz0 hz1 hz2 rfl (by decide) v _ _ hown ad m c (acells ys) (by rw [acells_len, hl]) hsrc.src (acells_one ys) (by unfold maxLen; omega) (by omega) hbase
    have ho : OwnL w' base v' (xs ++ ys) := by unfold OwnL; rw [hly, acells_app]; exact h1
    obtain ⟨a', c', e⟩ := shape v' w' ho
    subst e
    exact ⟨a', c', w', h0, ho, h2⟩
theorem OwnL.one (W : World) (k : Int) (s : ByteArray) (hs : s.size ≤ 1048576) : Ats (W.alloc (.cells #[.int .i64 k, .string s] 32)) (some ⟨W.heap.size, 0, none⟩) 1 1 [(k, s)] := by
  refine ⟨rfl, Nat.le_refl _, by decide, fun x hx => by simp at hx; subst hx; show s.size + 1 ≤ _; omega, fun _ => ⟨W.heap.size, 0, rfl, fun i hi => ?_⟩⟩
  obtain rfl : i = 0 := by omega
  exact ⟨by simp, by simp⟩

set_option maxRecDepth 100000 in
set_option maxHeartbeats 1000000 in
theorem grow_any (n : Nat) (hn : n ≤ 4194304) (w : World) :
    Calls Tryz.prog 32 #[.slice none 0 0, .int .i64 n] w fun e w' => ∃ a c, e = .returned (.slice a 0 c) ∧ OwnT w' w.heap.size (.slice a 0 c) [] ∧ Below w.heap.size w w' := by
  have nI : (n : Int) ≤ 4194304 := by omega
  have n0 : ¬ ((n : Int) < 0) := by omega
  rcases Nat.eq_zero_or_pos n with h0 | h0
  · subst h0
    go_enter Tryz.func32, Tryz.ntmps32
    go_wp2
    go_ret
    exact ⟨none, 0, rfl, OwnT.nil _ _, Below.refl _ _⟩
  · obtain ⟨i0, hi, hz0, hz1, hz2⟩ := info_parts Tryz.infoT
    have hfit : Builtin.nextslicecap (0 + n) 0 * i0.bytes ≤ 281474976710656 := growslice_fits (bytes := i0.bytes) (need := 0 + n) (old := 0) (by omega) (by rw [hz2]; omega)
    have h := fun ty => Lib.run_append_grow_zeros (P := Tryz.prog) w 22 3 ty 36 i0 _ .i64 .i64 Tryz.underlying22 Tryz.underlying3 hi hz0 none 0 0 [] (run_firstCells_none w.drew i0.size 0 0 0) n h0 (by rw [hz1]; decide) (by omega) (by omega) (by rw [hz2]; omega) hfit
    rw [Nat.zero_add] at h
    have hge := grownCap_ge w n 0 36
    have hle := grownCap_le_maxLen w n 0 36 (by unfold maxLen; omega)
    have h63 : grownCap w n 0 36 ≤ 9223372036854775807 := by unfold maxLen at hle; omega
    have hzs : ∀ k, (Builtin.zeroCells (Value.agg #[.int .i64 0, .string ⟨#[]⟩]).cells k).size = k * 2 := fun k => by
      unfold Builtin.zeroCells
      rw [Array.size_map, Array.size_range]
      rfl
    have hG2 : (#[] ++ Builtin.zeroCells (Value.agg #[.int .i64 0, .string ⟨#[]⟩]).cells n ++ Builtin.zeroCells (Value.agg #[.int .i64 0, .string ⟨#[]⟩]).cells (grownCap w n 0 36 - n) : Array Value).size = grownCap w n 0 36 * 2 := by
      rw [Array.size_append, Array.size_append, hzs, hzs]
      simp
      omega
    generalize (#[] ++ Builtin.zeroCells (Value.agg #[.int .i64 0, .string ⟨#[]⟩]).cells n ++ Builtin.zeroCells (Value.agg #[.int .i64 0, .string ⟨#[]⟩]).cells (grownCap w n 0 36 - n) : Array Value) = C at *
    generalize grownCap w n 0 36 = G at *
    have hown : OwnT (w.drew.alloc (.cells C 36)) w.heap.size (.slice (some ⟨w.heap.size, 0, none⟩) 0 G) [] :=
      ⟨rfl, .inr ⟨w.heap.size, G, C, rfl, Nat.le_refl _, heap_alloc_new w.drew _, Nat.zero_le _, hle, hG2, rfl⟩⟩
    have hbel : Below w.heap.size w (w.drew.alloc (.cells C 36)) := (Below.refl _ _).drew.trans ((nbelow w.drew _).mono (Nat.le_refl _))
    have HO := hide hown
    have HB := hide hbel
    have nP : (0 : Int) < (n : Int) := by omega
    clear hown hbel hG2 hzs hge hle hfit hi hz0 hz1 hz2
    go_enter Tryz.func32, Tryz.ntmps32
    go_wp2_with (at_builtin; refine Lib.wpList_append_run _ rfl _ _ _ _ rfl _ _ rfl rfl _ _ (h _) ?_)
    go_ret
    exact ⟨_, _, rfl, HO.out, HB.out⟩

end Go.Proofs.YtklchpdpooikdaaGreatDoor

namespace Go.Proofs.YtklchpdpooikdaaGreatDoor

/-- The bytes ahead of the first byte d, those behind it, and whether there is one. -/
def cutD (d : UInt8) : List UInt8 → List UInt8 × List UInt8 × Bool
  | [] => ([], [], false)
  | c :: r => if c = d then ([], r, true) else (c :: (cutD d r).1, (cutD d r).2.1, (cutD d r).2.2)

theorem cutD_rest (d : UInt8) : ∀ l, (cutD d l).2.1.length ≤ l.length ∧ (cutD d l).1.length ≤ l.length ∧ ((cutD d l).2.2 = true → (cutD d l).2.1.length < l.length)
  | [] => by simp [cutD]
  | c :: r => by
    have ih := cutD_rest d r
    rw [cutD]
    split
    · simp
    · refine ⟨Nat.le_succ_of_le ih.1, by simp; exact ih.2.1, fun h => Nat.lt_succ_of_lt (ih.2.2 h)⟩

theorem cutD_no (d : UInt8) : ∀ l, (cutD d l).2.2 = false → (cutD d l).2.1 = []
  | [], _ => rfl
  | c :: r, h => by
    rw [cutD] at h ⊢
    split at h
    · cases h
    · rename_i hc; rw [if_neg hc]; exact cutD_no d r h

/-- The library's cut at one byte. -/
theorem cut_one (d : UInt8) : ∀ l : List UInt8, Lib.cut l [d] = cutD d l
  | [] => by simp [cutD, Lib.cut, Lib.index]
  | c :: r => by
    have ih := cut_one d r
    rw [cutD]
    by_cases hd : c = d
    · subst hd
      rw [if_pos rfl]
      simp [Lib.cut, Lib.index]
    · rw [if_neg hd]
      have hne : (d == c) = false := by rw [beq_eq_false_iff_ne]; exact fun e => hd e.symm
      have hx : Lib.index (c :: r) [d] = if Lib.index r [d] == -1 then -1 else Lib.index r [d] + 1 := by
        rw [Lib.index]
        simp [List.isPrefixOf, hne]
      have hge := Lib.index_ge r [d]
      unfold Lib.cut at ih ⊢
      rw [hx]
      by_cases h0 : 0 ≤ Lib.index r [d]
      · rw [if_pos h0] at ih
        have hb1 : (Lib.index r [d] == -1) = false := by rw [beq_eq_false_iff_ne]; omega
        rw [hb1]
        simp only [Bool.false_eq_true, if_false]
        rw [if_pos (by omega)]
        have e1 : (Lib.index r [d] + 1).toNat = (Lib.index r [d]).toNat + 1 := by omega
        rw [e1, ← ih]
        simp
      · rw [if_neg h0] at ih
        have hb1 : (Lib.index r [d] == -1) = true := by rw [beq_iff_eq]; omega
        rw [hb1]
        simp only [if_true]
        rw [if_neg (by omega), ← ih]

/-- The pieces between dots; acc: the bytes of the first one so far. -/
def labsG : List UInt8 → List UInt8 → List (List UInt8)
  | acc, [] => [acc]
  | acc, c :: r => if c = 46 then acc :: labsG [] r else labsG (acc ++ [c]) r
def labs (l : List UInt8) : List (List UInt8) := labsG [] l

theorem labsG_cut : ∀ (l acc : List UInt8), labsG acc l = (acc ++ (cutD 46 l).1) :: (if (cutD 46 l).2.2 = true then labs (cutD 46 l).2.1 else [])
  | [], acc => by simp [labsG, cutD]
  | c :: r, acc => by
    rw [labsG, cutD]
    by_cases hc : c = 46
    · rw [if_pos hc, if_pos hc]; simp [labs]
    · rw [if_neg hc, if_neg hc, labsG_cut r]; simp
theorem labs_cut (l : List UInt8) : labs l = (cutD 46 l).1 :: (if (cutD 46 l).2.2 = true then labs (cutD 46 l).2.1 else []) := labsG_cut l []
theorem labsG_len : ∀ (l acc : List UInt8), (labsG acc l).length ≤ l.length + 1
  | [], _ => by simp [labsG]
  | c :: r, acc => by
    rw [labsG]
    split
    · have := labsG_len r []; simp; omega
    · have := labsG_len r (acc ++ [c]); simp; omega
theorem labsG_ne : ∀ (l acc : List UInt8), labsG acc l ≠ []
  | [], _ => by simp [labsG]
  | c :: r, acc => by
    rw [labsG]
    split
    · simp
    · exact labsG_ne r _
theorem labsG_mem : ∀ (l acc : List UInt8), ∀ u ∈ labsG acc l, u.length ≤ acc.length + l.length
  | [], acc, u, h => by simp [labsG] at h; subst h; simp
  | c :: r, acc, u, h => by
    rw [labsG] at h
    split at h
    · rcases List.mem_cons.1 h with rfl | h
      · simp
      · have := labsG_mem r [] u h; simp at this ⊢; omega
    · have := labsG_mem r _ u h; simp at this ⊢; omega

/-- A digit, a letter or a digit. -/
def digN (n : Nat) : Bool := decide (48 ≤ n ∧ n ≤ 57)
def plN (n : Nat) : Bool := decide (65 ≤ n ∧ n ≤ 90) || decide (97 ≤ n ∧ n ≤ 122) || digN n
/-- Does each byte stand where it may? -/
def allP (f : Nat → Nat → Bool) : Nat → List UInt8 → Bool
  | _, [] => true
  | k, b :: r => f k b.toNat && allP f (k + 1) r
theorem allP_at (f : Nat → Nat → Bool) (l : List UInt8) (k : Nat) (h : k < l.length) : allP f k (l.drop k) = (f k (l[k]'h).toNat && allP f (k + 1) (l.drop (k + 1))) := by
  rw [List.drop_eq_getElem_cons h, allP]
theorem allP_all (g : Nat → Bool) : ∀ (l : List UInt8) (k : Nat), allP (fun _ n => g n) k l = l.all (fun b => g b.toNat)
  | [], _ => rfl
  | b :: r, k => by rw [allP, List.all_cons, allP_all g r]

/-- May a label's byte stand at its place? -/
def labP (n : Nat) (k b : Nat) : Bool := plN b || (decide (b = 45) && (decide (0 < k) && decide (k + 1 < n)))
/-- Is a text a label? is it digits alone? -/
def labL (l : List UInt8) : Bool := decide (0 < l.length) && (decide (l.length ≤ 63) && allP (labP l.length) 0 l)
def numL (l : List UInt8) : Bool := l.all (fun b => digN b.toNat)
/-- Are all labels, and the last one (or, of none, this one) not digits alone? -/
def dnsG : List UInt8 → List (List UInt8) → Bool
  | last, [] => !numL last
  | _, u :: ws => labL u && dnsG u ws
/-- Is a text a host's name? -/
def dnsL (l : List UInt8) : Bool := decide (l.length ≤ 253) && dnsG [] (labs l)
theorem dnsG_all : ∀ (ws : List (List UInt8)) (last : List UInt8), dnsG last ws = (ws.all labL && !numL (ws.getLast?.getD last))
  | [], last => by simp [dnsG]
  | u :: ws, last => by
    rw [dnsG, dnsG_all ws u, List.all_cons, Bool.and_assoc]
    congr 3
    cases ws with
    | nil => rfl
    | cons v ws => rw [List.getLast?_cons_cons]; cases h : (v :: ws).getLast? with
      | none => simp at h
      | some x => rfl
theorem dnsL_nil : dnsL [] = false := by decide
/-- Is a text a wild name? -/
def wildL : List UInt8 → Bool
  | a :: b :: r => decide (a = 42 ∧ b = 46) && (decide (r.length + 2 ≤ 253) && (dnsL r && r.contains 46))
  | _ => false

/-- May a byte stand in a local part, beside dots? -/
def locN (n : Nat) : Bool := plN n || (decide (n = 95) || (decide (n = 43) || decide (n = 45)))
/-- The pieces of a local part. -/
def locG (ws : List (List UInt8)) : Bool := ws.all (fun u => !u.isEmpty && u.all (fun b => locN b.toNat))
def locL (l : List UInt8) : Bool := decide (l.length ≤ 64) && locG (labs l)
/-- Is a text a mail address? -/
def mailL (l : List UInt8) : Bool := locL (cutD 64 l).1 && dnsL (cutD 64 l).2.1
/-- The same, byte by byte: p: does a dot, or nothing, stand ahead? -/
def locS : Bool → List UInt8 → Bool
  | p, [] => !p
  | p, c :: r => if c = 46 then !p && locS true r else locN c.toNat && locS false r
theorem locG_S : ∀ (l acc : List UInt8), locG (labsG acc l) = (acc.all (fun b => locN b.toNat) && locS acc.isEmpty l)
  | [], acc => by simp [labsG, locG, locS, Bool.and_comm]
  | c :: r, acc => by
    rw [labsG, locS]
    by_cases hc : c = 46
    · rw [if_pos hc, if_pos hc]
      show ((!acc.isEmpty && acc.all (fun b => locN b.toNat)) && locG (labsG [] r)) = _
      rw [locG_S r []]
      simp only [List.all_nil, Bool.true_and, List.isEmpty_nil]
      cases acc.isEmpty <;> cases acc.all (fun b => locN b.toNat) <;> simp
    · rw [if_neg hc, if_neg hc, locG_S r]
      have e : (acc ++ [c]).isEmpty = false := by cases acc <;> rfl
      rw [e, List.all_append]
      simp [Bool.and_assoc]
theorem locL_S (l : List UInt8) : locL l = (decide (l.length ≤ 64) && locS true l) := by
  unfold locL labs
  rw [locG_S]
  rfl

/-- Is a text a network address? -/
def ipL (l : List UInt8) : Bool := decide (l.length = 4) || decide (l.length = 16)

end Go.Proofs.YtklchpdpooikdaaGreatDoor
