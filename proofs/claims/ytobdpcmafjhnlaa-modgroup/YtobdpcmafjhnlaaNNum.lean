/-
  A slice as a number with so many limbs at most; the statements' own sum, product, alike, cut, works.
-/
import Derived.Test.YtobdpcmafjhnlaaNMul
namespace Go.Proofs.Ytobdpcmafjhnlaa
open Go.RowKit Go.IntWalk

/-- A slice of limbs that says a number, of at most L limbs. -/
def NumU (w : World) (v : Value) (x : Int) (L : Nat) : Prop := ∃ ao n c xs, v = .slice ao n c ∧ SrcG .u64 18446744073709551616 w ao n c xs ∧ (trm xs).length ≤ L ∧ val 18446744073709551616 xs = x

theorem NumU.below {w w' : World} {v : Value} {x : Int} {L : Nat} (h : NumU w v x L) (hb : Below w.heap.size w w') : NumU w' v x L := by
  obtain ⟨ao, n, c, xs, he, hs, hl, hv⟩ := h
  exact ⟨ao, n, c, xs, he, hs.below hb, hl, hv⟩

theorem NumU.drew {w w' : World} {v : Value} {x : Int} {L : Nat} (h : NumU w v x L) (hb : Drew w w') : NumU w' v x L := by
  obtain ⟨ao, n, c, xs, he, hs, hl, hv⟩ := h
  exact ⟨ao, n, c, xs, he, hb.src hs, hl, hv⟩

theorem NumU.alloc {w : World} {v : Value} {x : Int} {L : Nat} (h : NumU w v x L) (o : Obj) : NumU (w.alloc o) v x L := h.below ((Below.refl _ _).alloc (Nat.le_refl _) _)

theorem NumU.of {w : World} {base : Nat} {v : Value} {zs : List Int} (h : GotG .u64 18446744073709551616 52 w base v zs) (ht : Tr zs) (L : Nat) (hL : zs.length ≤ L) : NumU w v (val 18446744073709551616 zs) L := by
  obtain ⟨g, he, _, _⟩ := h.shape
  subst he
  exact ⟨_, _, _, zs, rfl, h.src, by rw [trm_self (b := 18446744073709551616) (by decide) h.dg ht]; exact hL, rfl⟩

theorem NumU.nonneg {w : World} {v : Value} {x : Int} {L : Nat} (h : NumU w v x L) : 0 ≤ x ∧ x < pw 18446744073709551616 L := by
  obtain ⟨ao, n, c, xs, he, hs, hl, hv⟩ := h
  have h1 := val_nonneg (b := 18446744073709551616) (by decide) (trm_dg hs.hdg)
  have h2 := val_lt (b := 18446744073709551616) (by decide) (trm_dg hs.hdg)
  rw [trm_val, hv] at h1 h2
  have h3 := pw_mono (b := 18446744073709551616) (by decide) _ _ hl
  omega

theorem NumU.lit {w : World} (xs : List Int) (C : Array Value) (n g : Nat) (hC : C = (xs.map (Value.int .u64)).toArray) (hn : xs.length = n) (hd : Dg 18446744073709551616 xs) (hm : n ≤ 1000) (hg : g = w.heap.size) (L : Nat) (hL : n ≤ L) (x : Int) (hx : val 18446744073709551616 xs = x) : NumU (w.alloc (.cells C 52)) (.slice (some ⟨g, 0, none⟩) n n) x L :=
  ⟨_, _, _, xs, rfl, SrcG.litAt xs C n g hC hn hd (by omega) hg, by have := trm_len xs; omega, hx⟩

theorem NumU.nil (w : World) (L : Nat) : NumU w (.slice none 0 0) 0 L := ⟨none, 0, 0, [], rfl, ⟨rfl, Nat.le_refl _, by decide, fun _ => ⟨rfl, rfl⟩, fun h => absurd rfl h, by intro x hx; simp at hx⟩, by simp [trm], rfl⟩

theorem sliceG_h {P : Program} {T : TypeId} (sT : TypeId) (hT : P.elem sT = T) (hu : P.underlying sT = some (.slice T)) (hsz : ∀ w : World, (sizeOf T).run P w = .ok 1 w) (w : World) (ao : Option Addr) (n c : Nat) (h : Int) (m : Nat) (hm : h = (m : Int)) (hc : m ≤ c) :
    (Instr.slice sT (.slice ao n c) none (some (.int .i64 h)) none).run P w = .ok (.slice ao m c) w := by
  subst hm
  have hu' : P.underlying sT = some (.slice (P.elem sT)) := by rw [hT]; exact hu
  rw [run_slice_h w _ _ _ _ hu' .i64 (m : Int) (by omega) (by omega), hT, hsz]
  have := cutG_zero ao c
  unfold cutG at this
  simp only [Result.andThen_ok, sliced, Int.toNat_natCast, Nat.sub_zero, Nat.zero_mul, this]

theorem SrcG.head2 {κ : IntKind} {B : Int} {w : World} {ao : Option Addr} {n c : Nat} {xs : List Int} (hs : SrcG κ B w ao n c xs) (h : Nat) (hh : h ≤ n) : SrcG κ B w ao h c (xs.take h) := by
  have := hs.cut 0 h (Nat.zero_le _) hh
  simpa [cutG_zero] using this

end Go.Proofs.Ytobdpcmafjhnlaa
