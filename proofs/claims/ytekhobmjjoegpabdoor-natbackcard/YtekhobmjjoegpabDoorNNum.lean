/-
  A slice as a number with so many limbs at most; the statements' own sum, product, alike, cut, works.
-/
import Derived.Test.YtekhobmjjoegpabDoorNMul
namespace Go.Proofs.YtekhobmjjoegpabDoor
open Go.RowKit Go.IntWalk

/-- A slice of limbs that says a number, of at most L limbs. -/
def NumU (w : World) (v : Value) (x : Int) (L : Nat) : Prop := ∃ ao n c xs, v = .slice ao n c ∧ SrcG .u64 18446744073709551616 w ao n c xs ∧ (trm xs).length ≤ L ∧ val 18446744073709551616 xs = x

theorem NumU.below {w w' : World} {v : Value} {x : Int} {L : Nat} (h : NumU w v x L) (hb : Below w.heap.size w w') : NumU w' v x L := by
  obtain ⟨ao, n, c, xs, he, hs, hl, hv⟩ := h
  exact ⟨ao, n, c, xs, he, hs.below hb, hl, hv⟩

theorem NumU.drew {w w' : World} {v : Value} {x : Int} {L : Nat} (h : NumU w v x L) (hb : Drew w w') : NumU w' v x L := by
  obtain ⟨ao, n, c, xs, he, hs, hl, hv⟩ := h
  exact ⟨ao, n, c, xs, he, hb.src hs, hl, hv⟩

theorem NumU.alloc {w : World} {v : Value} {x : Int} {L : Nat} (h : NumU w v x L) (o : Obj) : NumU (w.alloc o) v x L := h.below ((Below.refl _ _).alloc (Nat.le_refl _) _)

theorem NumU.of {w : World} {base : Nat} {v : Value} {zs : List Int} (h : GotG .u64 18446744073709551616 35 w base v zs) (ht : Tr zs) (L : Nat) (hL : zs.length ≤ L) : NumU w v (val 18446744073709551616 zs) L := by
  obtain ⟨g, he, _, _⟩ := h.shape
  subst he
  exact ⟨_, _, _, zs, rfl, h.src, by rw [trm_self (b := 18446744073709551616) (by decide) h.dg ht]; exact hL, rfl⟩

theorem NumU.nonneg {w : World} {v : Value} {x : Int} {L : Nat} (h : NumU w v x L) : 0 ≤ x ∧ x < pw 18446744073709551616 L := by
  obtain ⟨ao, n, c, xs, he, hs, hl, hv⟩ := h
  have h1 := val_nonneg (b := 18446744073709551616) (by decide) (trm_dg hs.hdg)
  have h2 := val_lt (b := 18446744073709551616) (by decide) (trm_dg hs.hdg)
  rw [trm_val, hv] at h1 h2
  have h3 := pw_mono (b := 18446744073709551616) (by decide) _ _ hl
  omega

theorem NumU.lit {w : World} (xs : List Int) (C : Array Value) (n g : Nat) (hC : C = (xs.map (Value.int .u64)).toArray) (hn : xs.length = n) (hd : Dg 18446744073709551616 xs) (hm : n ≤ 1000) (hg : g = w.heap.size) (L : Nat) (hL : n ≤ L) (x : Int) (hx : val 18446744073709551616 xs = x) : NumU (w.alloc (.cells C 35)) (.slice (some ⟨g, 0, none⟩) n n) x L :=
  ⟨_, _, _, xs, rfl, SrcG.litAt xs C n g hC hn hd (by omega) hg, by have := trm_len xs; omega, hx⟩

theorem NumU.nil (w : World) (L : Nat) : NumU w (.slice none 0 0) 0 L := ⟨none, 0, 0, [], rfl, ⟨rfl, Nat.le_refl _, by decide, fun _ => ⟨rfl, rfl⟩, fun h => absurd rfl h, by intro x hx; simp at hx⟩, by simp [trm], rfl⟩

set_option maxRecDepth 100000 in
theorem alike_num (v1 v2 : Value) (x y : Int) (L1 L2 : Nat) (w : World) (h1 : NumU w v1 x L1) (h2 : NumU w v2 y L2) (l1 : L1 ≤ 64) (l2 : L2 ≤ 64) :
    Calls Tryd.prog 8 #[v1, v2] w fun e w' => e = .returned (.bool (decide (x = y))) ∧ Drew w w' := by
  obtain ⟨a1, n1, c1, xs, rfl, s1, m1, hx⟩ := h1
  obtain ⟨a2, n2, c2, ys, rfl, s2, m2, hy⟩ := h2
  have ca := compare_ok a1 n1 c1 xs a2 n2 c2 ys w s1 s2 (by omega) (by omega)
  rw [hx, hy] at ca
  obtain ⟨r, hr⟩ : ∃ r, cmpI x y = r := ⟨_, rfl⟩
  rw [hr] at ca
  have CA := hide ca
  clear ca
  have hd : decide (x = y) = (r == 0) := by
    subst hr
    unfold cmpI
    (repeat' split) <;> simp <;> omega
  rw [hd]
  clear hd hr
  go_enter Tryd.func8, Tryd.ntmps8
  go_wp2_with fail
  refine CA.out.mono ?_
  rintro e w1 ⟨rfl, hB⟩
  go_wp2
  go_ret
  exact ⟨rfl, hB⟩

theorem alike_true (v1 v2 : Value) (x y : Int) (L1 L2 : Nat) (w : World) (h1 : NumU w v1 x L1) (h2 : NumU w v2 y L2) (l1 : L1 ≤ 64) (l2 : L2 ≤ 64) (hxy : x = y) :
    Calls Tryd.prog 8 #[v1, v2] w fun e w' => e = .returned (.bool true) ∧ Drew w w' := by
  have := alike_num v1 v2 x y L1 L2 w h1 h2 l1 l2
  rwa [show decide (x = y) = true by simpa using hxy] at this

theorem sliceG_h {P : Program} {T : TypeId} (sT : TypeId) (hT : P.elem sT = T) (hu : P.underlying sT = some (.slice T)) (hsz : ∀ w : World, (sizeOf T).run P w = .ok 1 w) (w : World) (ao : Option Addr) (n c : Nat) (h : Int) (m : Nat) (hm : h = (m : Int)) (hc : m ≤ c) :
    (Instr.slice sT (.slice ao n c) none (some (.int .i64 h)) none).run P w = .ok (.slice ao m c) w := by
  subst hm
  have hu' : P.underlying sT = some (.slice (P.elem sT)) := by rw [hT]; exact hu
  rw [run_slice_h w _ _ _ _ hu' .i64 (m : Int) (by omega) (by omega), hT, hsz]
  have := cutG_zero ao c
  unfold cutG at this
  simp only [Result.andThen_ok, sliced, Int.toNat_natCast, Nat.sub_zero, Nat.zero_mul, this]

theorem SrcG.head2 {κ : IntKind} {B : Int} {w : World} {ao : Option Addr} {n c : Nat} {xs : List Int} (hs : SrcG κ B w ao n c xs) (h : Nat) (hh : h ≤ n) : SrcG κ B w ao h c (xs.take h) := by
  have := hs.cut 0 h (Nat.zero_le _) hh
  simpa [cutG_zero] using this

set_option maxRecDepth 100000 in
theorem cut_num (ao : Option Addr) (n c : Nat) (xs : List Int) (w : World) (hs : SrcG .u64 18446744073709551616 w ao n c xs) (L : Nat) (I : Int) (hI : I = (L : Int)) :
    Calls Tryd.prog 4 #[.slice ao n c, .int .i64 I] w fun e w' => ∃ v x, e = .returned v ∧ v = .slice ao (min n L) c ∧ NumU w' v x L ∧ w' = w := by
  have hl := hs.hlen
  have hc := hs.hcap
  have hm := hs.lenI
  obtain ⟨M, hM⟩ : ∃ M : Nat, min n L = M := ⟨_, rfl⟩
  have hMI : min (n : Int) I = (M : Int) := by omega
  have hMn : M ≤ n := by omega
  have hML : M ≤ L := by omega
  rw [hM]
  clear hM hI
  have hsl : ∀ W : World, (Instr.slice 23 (.slice ao n c) none (some (.int .i64 (M : Int))) none).run Tryd.prog W = .ok (.slice ao M c) W := fun W => sliceG_h _ Tryd.elemU Tryd.underlying23 Tryd.sizeOfU W _ _ _ _ M rfl (by omega)
  go_enter Tryd.func4, Tryd.ntmps4
  go_wp2
  go_ret
  exact ⟨_, val 18446744073709551616 (xs.take M), rfl, rfl, ⟨_, _, _, xs.take M, rfl, hs.head2 M hMn, by have := trm_len (xs.take M); rw [List.length_take] at this; omega, rfl⟩, rfl⟩

set_option maxRecDepth 100000 in
theorem works_any (w : World) : Calls Tryd.prog 9 #[] w fun e w' => e = .returned (.bool true) ∧ Below w.heap.size w w' := by
  have B2 : Below w.heap.size w ((w.alloc (.cells #[.int .u64 1] 35)).alloc (.cells #[.int .u64 1] 35)) := ((Below.refl _ _).alloc (Nat.le_refl _) _).alloc (by simp) _
  have s1 : SrcG .u64 18446744073709551616 ((w.alloc (.cells #[.int .u64 1] 35)).alloc (.cells #[.int .u64 1] 35)) (some ⟨w.heap.size, 0, none⟩) 1 1 [1] := (SrcG.litAt [1] _ 1 _ rfl rfl (by intro x hx; simp at hx; omega) (by decide) rfl).alloc _
  have s2 : SrcG .u64 18446744073709551616 ((w.alloc (.cells #[.int .u64 1] 35)).alloc (.cells #[.int .u64 1] 35)) (some ⟨w.heap.size + 1, 0, none⟩) 1 1 [1] := SrcG.litAt [1] _ 1 _ rfl rfl (by intro x hx; simp at hx; omega) (by decide) (by simp)
  have ca := add_ok _ 1 1 [1] _ 1 1 [1] _ s1 s2 (by decide) (by decide)
  have CA := hide ca
  clear ca
  go_enter Tryd.func9, Tryd.ntmps9
  go_wp2_with fail
  refine CA.out.mono ?_
  rintro e w1 ⟨v, zs, rfl, hG, hT, hv, hB⟩
  have hz : zs = [2] := tr_inj (b := 18446744073709551616) (by decide) hG.dg (by intro x hx; simp at hx; omega) hT (by intro _; decide) (by rw [hv]; decide)
  subst hz
  obtain ⟨g, rest, rfl, _, hR, _⟩ := hG
  have e0 := hR.cell 0 (by simp)
  have e1 : w1.cell? ⟨g, 0, none⟩ = some (.int .u64 2) := by simpa using e0
  clear e0 hv hT
  simp only [List.length_singleton]
  go_wp2
  go_ret
  exact ⟨rfl, B2.trans (hB.mono (by simp; omega))⟩

end Go.Proofs.YtekhobmjjoegpabDoor
