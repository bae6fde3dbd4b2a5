/-
  What NatBytes calls, each told in one way, whether the number may be or not; the text of bytes.
-/
import Derived.Test.YtekhobmjjoegpaaDoorNRefFB
import Derived.Test.YtekhobmjjoegpaaDoorNRefBy
import Derived.Test.YtekhobmjjoegpaaDoorNRefB
import Derived.Test.YtekhobmjjoegpaaDoorNLaw
import Derived.Test.YtekhobmjjoegpaaDoorNBytes
import Derived.Laws.BytesArg
import Derived.Laws.Concat
namespace Go.Proofs.YtekhobmjjoegpaaDoor
open Go.RowKit Go.IntWalk

/-- 'string(b)'. -/
theorem SrcG.text {w : World} {ao : Option Addr} {n cap : Nat} {xs : List Int} (h : SrcG .u8 256 w ao n cap xs) :
    (convert 22 9 (.slice ao n cap)).run Tryd.prog w = .ok (.string (strOfNums xs)) w := by
  obtain ⟨hlen, hcap, hmax, hnil, hrd, hbyt⟩ := h
  by_cases hx : xs = []
  · subst hx
    obtain rfl : n = 0 := by simpa using hlen.symm
    cases ao with
    | none => exact run_convert_bytes_nil w 22 5 Tryd.underlying22 Tryd.underlying5 _ _ 9 Tryd.underlying9
    | some ad =>
      rw [run_convert_bytes_string w 22 9 5 _ 0 cap Tryd.underlying22 Tryd.underlying5 Tryd.underlying9]
      rw [run_bytesToString w ad 0 cap [] (by simpa using run_loadCells_list (P := Tryd.prog) w ad [] (fun j v hj => by simp at hj))]
      rfl
  · obtain ⟨b, off, rfl, hc⟩ := hrd hx
    exact run_convert_bytes_arg w 22 5 Tryd.underlying22 Tryd.underlying5 b off n cap xs hlen (fun i hi => hc i (by omega)) 9 Tryd.underlying9

theorem strOf_app (xs ys : List Int) : strOfNums xs ++ strOfNums ys = strOfNums (xs ++ ys) := by
  apply ByteArray.ext
  simp [strOfNums]

theorem GotG.apartU {w1 w2 : World} {b1 : Nat} {v1 v2 : Value} {zs ys : List Int} (h1 : GotG .u64 18446744073709551616 48 w1 b1 v1 zs) (h2 : GotG .u64 18446744073709551616 48 w2 w1.heap.size v2 ys) : v1.ownBlock ≠ v2.ownBlock := by
  obtain ⟨g1, rfl, _, l1⟩ := h1.shape
  obtain ⟨g2, rfl, l2, _⟩ := h2.shape
  simp [Value.ownBlock]
  omega

def errF (xs : List Int) : Int := if 512 < (lz xs).length then 3 else 0

/-- What From gives. -/
def FromR (w : World) (base : Nat) (v : Value) (xs : List Int) : Prop :=
  (512 < (lz xs).length ∧ v = .slice none 0 0) ∨ ((lz xs).length ≤ 512 ∧ ∃ zs, GotG .u64 18446744073709551616 48 w base v zs ∧ Tr zs ∧ val 18446744073709551616 zs = val 256 xs.reverse)

theorem FromR.below {w w' : World} {base : Nat} {v : Value} {xs : List Int} (h : FromR w base v xs) (hb : Below w.heap.size w w') : FromR w' base v xs := by
  rcases h with h | ⟨h, zs, h1, h2⟩
  · exact .inl h
  · exact .inr ⟨h, zs, h1.below hb, h2⟩

theorem FromR.row {w : World} {base : Nat} {v : Value} {xs : List Int} (h : FromR w base v xs) : ∀ k, v.ownBlock = some k → base ≤ k := by
  intro k hk
  rcases h with ⟨_, rfl⟩ | ⟨_, zs, h1, _⟩
  · simp [Value.ownBlock] at hk
  · obtain ⟨g1, rfl, l1, _⟩ := h1.shape
    simp [Value.ownBlock] at hk
    omega

theorem from_u (ao : Option Addr) (n c : Nat) (xs : List Int) (E : Int) (hE : errF xs = E) (w : World) (hs : SrcG .u8 256 w ao n c xs) :
    Calls Tryd.prog 4 #[.slice ao n c] w fun e w' => ∃ v, e = .returned (.tuple #[v, .int .i64 E]) ∧ FromR w' w.heap.size v xs ∧ Below w.heap.size w w' := by
  unfold errF at hE
  rcases Nat.lt_or_ge 512 (lz xs).length with h | h
  · rw [if_pos h] at hE
    subst hE
    refine (from_long ao n c xs w hs h).mono ?_
    rintro e w' ⟨rfl, hw⟩
    rw [hw]
    exact ⟨_, rfl, .inl ⟨h, rfl⟩, Below.refl _ _⟩
  · rw [if_neg (by omega)] at hE
    subst hE
    refine (from_ok ao n c xs w hs h).mono ?_
    rintro e w' ⟨v, zs, rfl, h1, h2, h3, h4⟩
    exact ⟨_, rfl, .inr ⟨h, zs, h1, h2, h3⟩, h4⟩

def FromD (w : World) (v : Value) (xs : List Int) : Prop := (512 < (lz xs).length) ∨ ((lz xs).length ≤ 512 ∧ NumD w v (val 256 xs.reverse) 256)

theorem fromBytes_u (ao : Option Addr) (n c : Nat) (xs : List Int) (E : Int) (hE : errF xs = E) (w : World) (hs : SrcG .u8 256 w ao n c xs) :
    Calls Tryd.prog 5 #[.slice ao n c] w fun e w' => ∃ v, e = .returned (.tuple #[v, .int .i64 E]) ∧ FromD w' v xs ∧ Below w.heap.size w w' := by
  unfold errF at hE
  rcases Nat.lt_or_ge 512 (lz xs).length with h | h
  · rw [if_pos h] at hE
    subst hE
    refine (fromBytes_long ao n c xs w hs h).mono ?_
    rintro e w' ⟨rfl, hw⟩
    rw [hw]
    exact ⟨_, rfl, .inl h, Below.refl _ _⟩
  · rw [if_neg (by omega)] at hE
    subst hE
    refine (fromBytes_ok ao n c xs w hs h).mono ?_
    rintro e w' ⟨v, rfl, h1, h4⟩
    exact ⟨_, rfl, .inr ⟨h, h1⟩, h4⟩

theorem FromR.apart {w1 w2 : World} {b1 : Nat} {v1 v2 : Value} {xs : List Int} (h1 : FromR w1 b1 v1 xs) (h2 : FromR w2 w1.heap.size v2 xs) : (lz xs).length ≤ 512 → v1.ownBlock ≠ v2.ownBlock := by
  intro h
  rcases h1 with ⟨h', _⟩ | ⟨_, zs, g1, _⟩
  · omega
  rcases h2 with ⟨h', _⟩ | ⟨_, ys, g2, _⟩
  · omega
  exact GotG.apartU g1 g2

theorem own_u (base1 base2 : Nat) (v1 v2 v3 : Value) (xs : List Int) (E : Int) (hE : errF xs = E) (w : World) (h1 : FromR w base1 v1 xs) (h2 : FromR w base2 v2 xs) (hne : (lz xs).length ≤ 512 → v1.ownBlock ≠ v2.ownBlock) (h3 : FromD w v3 xs) :
    Calls Tryd.prog 6 #[v1, v2, .int .i64 E, v3, .int .i64 E] w fun e w' => e = .returned (.bool true) ∧ w.grownBy w' v1.ownBlock := by
  unfold errF at hE
  rcases Nat.lt_or_ge 512 (lz xs).length with h | h
  · rw [if_pos h] at hE
    subst hE
    rcases h1 with ⟨_, rfl⟩ | ⟨h', _⟩
    · rcases h2 with ⟨_, rfl⟩ | ⟨h', _⟩
      · refine (own_bad 3 v3 w (by decide)).mono ?_
        rintro e w' ⟨rfl, hw⟩
        rw [hw]
        exact ⟨rfl, World.grownBy.refl _ _⟩
      · omega
    · omega
  · rw [if_neg (by omega)] at hE
    subst hE
    rcases h1 with ⟨h', _⟩ | ⟨_, zs, g1, t1, e1⟩
    · omega
    rcases h2 with ⟨h', _⟩ | ⟨_, ys, g2, t2, e2⟩
    · omega
    rcases h3 with h' | ⟨_, h3⟩
    · omega
    obtain rfl : zs = ys := tr_inj (b := 18446744073709551616) (by decide) g1.dg g2.dg t1 t2 (by rw [e1, e2])
    exact own_ok base1 base2 v1 v2 v3 zs _ 256 w g1 g2 (hne h) h3 (by omega) t1 e1

def errN (xs : List Int) : Int := if 64 < (trm xs).length then 3 else 0
def valN (xs : List Int) : Int := if 64 < (trm xs).length then 0 else val 18446744073709551616 xs

theorem of_u (ao : Option Addr) (n c : Nat) (xs : List Int) (E X : Int) (hE : errN xs = E) (hX : valN xs = X) (w : World) (hs : SrcG .u64 18446744073709551616 w ao n c xs) :
    Calls Tryd.prog 8 #[.slice ao n c] w fun e w' => ∃ v, e = .returned (.tuple #[v, .int .i64 E]) ∧ NumD w' v X 256 ∧ Below w.heap.size w w' := by
  unfold errN at hE
  unfold valN at hX
  rcases Nat.lt_or_ge 64 (trm xs).length with h | h
  · rw [if_pos h] at hE hX
    subst hE
    subst hX
    refine (of_long ao n c xs w hs h).mono ?_
    rintro e w' ⟨rfl, hw⟩
    rw [hw]
    exact ⟨_, rfl, NumD.nil _ _, Below.refl _ _⟩
  · rw [if_neg (by omega)] at hE hX
    subst hE
    subst hX
    exact of_ok ao n c xs w hs h

/-- What Bytes gives. -/
structure BysR (w : World) (base : Nat) (ao : Option Addr) (L c : Nat) (bs : List Int) : Prop where
  len : bs.length = L
  max : L ≤ 512
  src : SrcG .u8 256 w ao L c bs
  row : 0 < L → ∃ g rest, ao = some ⟨g, 0, none⟩ ∧ base ≤ g ∧ g < w.heap.size ∧ RowG .u8 256 5 w g (bs ++ rest)

theorem BysR.below {w w' : World} {base : Nat} {ao : Option Addr} {L c : Nat} {bs : List Int} (h : BysR w base ao L c bs) (hb : Below w.heap.size w w') : BysR w' base ao L c bs := by
  refine ⟨h.len, h.max, h.src.below hb, fun h0 => ?_⟩
  obtain ⟨g, rest, h1, h2, h3, h4⟩ := h.row h0
  exact ⟨g, rest, h1, h2, by have := hb.size; omega, h4.below hb⟩

theorem BysR.heap {w w' : World} {base : Nat} {ao : Option Addr} {L c : Nat} {bs : List Int} (h : BysR w base ao L c bs) (e : w'.heap = w.heap) : BysR w' base ao L c bs := by
  refine ⟨h.len, h.max, h.src.heap e, fun h0 => ?_⟩
  obtain ⟨g, rest, h1, h2, h3, h4⟩ := h.row h0
  exact ⟨g, rest, h1, h2, by rw [e]; exact h3, h4.heap e⟩

theorem hd_of {bs : List Int} (hb : Dg 256 bs) (h : bs ≠ [] → pw 256 (bs.length - 1) ≤ val 256 bs.reverse) : Hd bs := by
  by_cases hn : bs = []
  · exact .inl hn
  · right
    intro h0
    have g1 := h hn
    have hl : 0 < bs.length := List.length_pos_iff.2 hn
    have hR : Dg 256 bs.reverse := dg_rev hb
    have g2 := val_last 256 bs.reverse (by simpa using hn)
    rw [List.length_reverse, rev_getD bs _ (by omega), show bs.length - 1 - (bs.length - 1) = 0 by omega, h0, Int.zero_mul, Int.add_zero] at g2
    have g3 := val_lt (b := 256) (by decide) (hR.take (bs.length - 1))
    rw [List.length_take, List.length_reverse, Nat.min_eq_left (by omega)] at g3
    omega

theorem bytes_u (ao : Option Addr) (n c : Nat) (xs : List Int) (E X : Int) (hE : errN xs = E) (hX : valN xs = X) (w : World) (hs : SrcG .u64 18446744073709551616 w ao n c xs) :
    Calls Tryd.prog 9 #[.slice ao n c] w fun e w' => ∃ ab L cb bs, e = .returned (.tuple #[.slice ab L cb, .int .i64 E]) ∧ BysR w' w.heap.size ab L cb bs ∧ Hd bs ∧ val 256 bs.reverse = X ∧ Below w.heap.size w w' := by
  unfold errN at hE
  unfold valN at hX
  rcases Nat.lt_or_ge 64 (trm xs).length with h | h
  · rw [if_pos h] at hE hX
    subst hE
    subst hX
    refine (bytes_long ao n c xs w hs h).mono ?_
    rintro e w' ⟨rfl, hw⟩
    rw [hw]
    exact ⟨none, 0, 0, [], rfl, ⟨rfl, by omega, ⟨rfl, Nat.le_refl _, by decide, fun _ => ⟨rfl, rfl⟩, fun h => absurd rfl h, by intro x hx; simp at hx⟩, fun h => by omega⟩, .inl rfl, rfl, Below.refl _ _⟩
  · rw [if_neg (by omega)] at hE hX
    subst hE
    subst hX
    refine (bytes_ok ao n c xs w hs h).mono ?_
    rintro e w' ⟨v, bs, S, rfl, h1, h2, h3, h4, h5, h6⟩
    have hdg := h1.dg
    have hh : Hd bs := hd_of hdg (by
      intro hne
      have hl : 0 < bs.length := List.length_pos_iff.2 hne
      have := (bl_bytes h3).2 (by rw [← h5]; exact hl)
      rw [h2, h5]
      exact this)
    have h1' := h1
    obtain ⟨g, rest, rfl, l1, l2, l3⟩ := h1'
    exact ⟨_, _, _, bs, rfl, ⟨rfl, by omega, h1.src, fun _ => ⟨g, rest, rfl, l1, l2.lt, l2⟩⟩, hh, h2, h6⟩

theorem bits_u (ao : Option Addr) (n c : Nat) (xs : List Int) (E X : Int) (hE : errN xs = E) (hX : valN xs = X) (w : World) (hs : SrcG .u64 18446744073709551616 w ao n c xs) :
    Calls Tryd.prog 10 #[.slice ao n c] w fun e w' => ∃ S : Nat, e = .returned (.tuple #[.int .i64 S, .int .i64 E]) ∧ BL X S ∧ S ≤ 4096 ∧ w' = w := by
  unfold errN at hE
  unfold valN at hX
  rcases Nat.lt_or_ge 64 (trm xs).length with h | h
  · rw [if_pos h] at hE hX
    subst hE
    subst hX
    refine (bits_long ao n c xs w hs h).mono ?_
    rintro e w' ⟨rfl, hw⟩
    exact ⟨0, rfl, .inl ⟨rfl, rfl⟩, by omega, hw⟩
  · rw [if_neg (by omega)] at hE hX
    subst hE
    subst hX
    exact bits_ok ao n c xs w hs h

def bitN (xs : List Int) (I : Int) : Int := if I < 0 then 0 else val 18446744073709551616 xs / pw 2 I.toNat % 2

theorem bit_u (ao : Option Addr) (n c : Nat) (xs : List Int) (I D : Int) (hD : bitN xs I = D) (w : World) (hs : SrcG .u64 18446744073709551616 w ao n c xs) (hI : I ≤ 9223372036854775807) :
    Calls Tryd.prog 13 #[.slice ao n c, .int .i64 I] w fun e w' => e = .returned (.int .u64 D) ∧ w' = w := by
  unfold bitN at hD
  by_cases h : I < 0
  · rw [if_pos h] at hD
    subst hD
    exact bit_neg ao n c I h w
  · rw [if_neg h] at hD
    subst hD
    exact bit_any ao n c xs I.toNat I (by omega) w hs (by omega)

theorem refBit_u (ao : Option Addr) (n c : Nat) (xs : List Int) (I D : Int) (hD : bitN xs I = D) (w : World) (hs : SrcG .u64 18446744073709551616 w ao n c xs) (hI : I ≤ 9223372036854775807) :
    Calls Tryd.prog 14 #[.slice ao n c, .int .i64 I] w fun e w' => e = .returned (.int .u64 D) ∧ w' = w := by
  unfold bitN at hD
  by_cases h : I < 0
  · rw [if_pos h] at hD
    subst hD
    exact refBit_neg ao n c I h w
  · rw [if_neg h] at hD
    subst hD
    exact refBit_any ao n c xs I.toNat I (by omega) w hs (by omega)

end Go.Proofs.YtekhobmjjoegpaaDoor
