/-
  der.Check's closure that goes down by itself answers as the plain function of the bytes says, and counts what it has seen.
-/
import Derived.Test.YtdoijgkdmfchaaaCSpec
import Derived.Test.YtdoijgkdmfchaaaMore
import Derived.Laws.EntriesVeiled
namespace Go.Proofs.Ytdoijgkdmfchaaa
open Go.RowKit Go.IntWalk

theorem and32 (t : Int) (h0 : 0 ≤ t) (h1 : t < 256) : bits .and .i64 t 32 = t / 32 % 2 * 32 := by
  obtain ⟨A, rfl⟩ := Int.eq_ofNat_of_zero_le h0
  show IntKind.i64.wrap ((BitVec.ofInt 64 (A : Int) &&& BitVec.ofInt 64 32).toNat : Int) = _
  have e32 : (BitVec.ofInt 64 32).toNat = 2 ^ 5 := by decide
  rw [BitVec.toNat_and, BitVec.ofInt_natCast, BitVec.toNat_ofNat, Nat.mod_eq_of_lt (by omega), e32, nat_bit 5, IntKind.wrap_i64]
  omega

set_option maxRecDepth 100000 in
set_option maxHeartbeats 1000000 in
theorem cons_any (t l h : Int) (w : World) (h0 : 0 ≤ t) (h1 : t < 256) :
    Calls Try.prog 39 #[.agg #[.int .i64 t, .int .i64 l, .int .i64 h]] w fun e w' => e = .returned (.bool (consB t)) ∧ Below w.heap.size w w' := by
  have ha := and32 t h0 h1
  by_cases hc : t / 32 % 2 = 1
  · have E := hide (show consB t = true by simp [consB, hc])
    have hb : (t / 32 % 2 * 32 != 0) = true := by simp; omega
    clear hc
    go_enter Try.func39, Try.ntmps39
    go_wp2
    go_ret
    rw [E.out]
    exact ⟨rfl, (Below.refl _ _).alloc (Nat.le_refl _) _⟩
  · have E := hide (show consB t = false by simp [consB, hc])
    have hb : (t / 32 % 2 * 32 != 0) = false := by simp; omega
    clear hc
    go_enter Try.func39, Try.ntmps39
    go_wp2
    go_ret
    rw [E.out]
    exact ⟨rfl, (Below.refl _ _).alloc (Nat.le_refl _) _⟩

theorem cell_new (w : World) (g : Nat) (C : Array Value) (T : TypeId) (j : Nat) (hg : g = w.heap.size) : (w.alloc (.cells C T)).cell? ⟨g, j, none⟩ = C[j]? := by
  subst hg
  have h := (MapKept.heap_alloc w (.cells C T)).1
  unfold World.cell?
  simp only [h]
  simp

/-- What lies around the closure: deep, the bytes, the count and itself, each in a box. -/
structure CInv (w : World) (bd bb bc bv : Nat) (deep : Int) (ab : Option Addr) (n cap : Nat) (bs : List Int) (c : Int) : Prop where
  d0 : w.cell? ⟨bd, 0, none⟩ = some (.int .i64 deep)
  b0 : w.cell? ⟨bb, 0, none⟩ = some (.slice ab n cap)
  k0 : w.cell? ⟨bc, 0, none⟩ = some (.int .i64 c)
  f0 : w.cell? ⟨bv, 0, none⟩ = some (.func (.func 38) #[] #[.pointer (some ⟨bd, 0, none⟩), .pointer (some ⟨bb, 0, none⟩), .pointer (some ⟨bc, 0, none⟩), .pointer (some ⟨bv, 0, none⟩)])
  src : Src w ab n cap bs
  fz : w.frozen? ⟨bc, 0, none⟩ = false
  lt : bc < w.heap.size
  nd : bd ≠ bc
  nb : bb ≠ bc
  nv : bv ≠ bc
  ns : ∀ b off, ab = some ⟨b, off, none⟩ → bs ≠ [] → b ≠ bc

theorem CInv.below {w w' : World} {bd bb bc bv : Nat} {deep : Int} {ab : Option Addr} {n cap : Nat} {bs : List Int} {c : Int} (h : CInv w bd bb bc bv deep ab n cap bs c) (hb : Below w.heap.size w w') : CInv w' bd bb bc bv deep ab n cap bs c :=
  ⟨(hb.cell (p := ⟨bd, 0, none⟩) (lt_of_cell h.d0)).trans h.d0, (hb.cell (p := ⟨bb, 0, none⟩) (lt_of_cell h.b0)).trans h.b0, (hb.cell (p := ⟨bc, 0, none⟩) h.lt).trans h.k0, (hb.cell (p := ⟨bv, 0, none⟩) (lt_of_cell h.f0)).trans h.f0,
    h.src.below hb, (hb.frozen (p := ⟨bc, 0, none⟩) h.lt).trans h.fz, Nat.lt_of_lt_of_le h.lt hb.size, h.nd, h.nb, h.nv, h.ns⟩

theorem CInv.alloc {w : World} {bd bb bc bv : Nat} {deep : Int} {ab : Option Addr} {n cap : Nat} {bs : List Int} {c : Int} (h : CInv w bd bb bc bv deep ab n cap bs c) (o : Obj) : CInv (w.alloc o) bd bb bc bv deep ab n cap bs c :=
  h.below ((Below.refl _ _).alloc (Nat.le_refl _) _)

theorem CInv.count {w : World} {bd bb bc bv : Nat} {deep : Int} {ab : Option Addr} {n cap : Nat} {bs : List Int} {c : Int} (h : CInv w bd bb bc bv deep ab n cap bs c) (c' : Int) :
    CInv (w.setCell ⟨bc, 0, none⟩ (.int .i64 c')) bd bb bc bv deep ab n cap bs c' ∧ w.grownBy (w.setCell ⟨bc, 0, none⟩ (.int .i64 c')) (some bc) := by
  have hg : w.grownBy (w.setCell ⟨bc, 0, none⟩ (.int .i64 c')) (some bc) := ⟨rfl, rfl, rfl, by simp, fun k _ hk => Below.heap_setCell w _ _ k (fun e => hk (by rw [e]))⟩
  refine ⟨⟨hg.cell h.d0 (by simpa using h.nd), hg.cell h.b0 (by simpa using h.nb), World.cell?_setCell_same _ _ _ h.k0, hg.cell h.f0 (by simpa using h.nv), h.src.grown hg (fun b off he hx => by simpa using h.ns b off he hx), by simp [h.fz], by simpa using h.lt, h.nd, h.nb, h.nv, h.ns⟩, hg⟩

end Go.Proofs.Ytdoijgkdmfchaaa
