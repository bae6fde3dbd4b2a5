/-
  The statement ShaPieces: its walk.
-/
import Derived.Test.YtgajejomibnghaaDoorSaL1
import Derived.Deep.DeepCutAuto
namespace Go.Proofs.YtgajejomibnghaaDoor
open Go.RowKit Go.IntWalk

attribute [local go_sem ↓] ld_words ld_part ld_sched ld_hash ld_dig ld_arr st_words st_part st_sched st_hash st_dig st_arr ix_words bd_hash bd_keyed bd_dig eq_dig

theorem Pcs0.two {w : World} {b : Nat} {a1 a2 : Option Addr} {n1 c1 n2 c2 : Nat} {xs ys : List Int} (h1 : w.cell? ⟨b, 0, none⟩ = some (.slice a1 n1 c1)) (h2 : w.cell? ⟨b, 1, none⟩ = some (.slice a2 n2 c2)) (s1 : SrcG .u8 256 w a1 n1 c1 xs) (s2 : SrcG .u8 256 w a2 n2 c2 ys) : Pcs0 w (some ⟨b, 0, none⟩) 2 [xs, ys] := by
  refine ⟨rfl, fun _ => ⟨b, 0, rfl, fun i hi => ?_⟩⟩
  rcases (show i = 0 ∨ i = 1 by omega) with rfl | rfl
  · exact ⟨_, _, _, h1, s1⟩
  · exact ⟨_, _, _, h2, s2⟩

theorem Pcs0.three {w : World} {b : Nat} {a1 a2 a3 : Option Addr} {n1 c1 n2 c2 n3 c3 : Nat} {xs ys zs : List Int} (h1 : w.cell? ⟨b, 0, none⟩ = some (.slice a1 n1 c1)) (h2 : w.cell? ⟨b, 1, none⟩ = some (.slice a2 n2 c2)) (h3 : w.cell? ⟨b, 2, none⟩ = some (.slice a3 n3 c3)) (s1 : SrcG .u8 256 w a1 n1 c1 xs) (s2 : SrcG .u8 256 w a2 n2 c2 ys) (s3 : SrcG .u8 256 w a3 n3 c3 zs) : Pcs0 w (some ⟨b, 0, none⟩) 3 [xs, ys, zs] := by
  refine ⟨rfl, fun _ => ⟨b, 0, rfl, fun i hi => ?_⟩⟩
  rcases (show i = 0 ∨ i = 1 ∨ i = 2 by omega) with rfl | rfl | rfl
  · exact ⟨_, _, _, h1, s1⟩
  · exact ⟨_, _, _, h2, s2⟩
  · exact ⟨_, _, _, h3, s3⟩


theorem mk_rest {U : World} {P : World → Value → Value → Prop} {G : Prop} (h : Hid (∀ W x y, Below U.heap.size U W → P W x y) → G) (k : ∀ W x y, Below U.heap.size U W → P W x y) : G := h k

theorem mk_rest1 {U : World} {P : World → Value → Prop} {G : Prop} (h : Hid (∀ W x, Below U.heap.size U W → P W x) → G) (k : ∀ W x, Below U.heap.size U W → P W x) : G := h k

theorem below_al {U W : World} (h : Below U.heap.size U W) (ob : Obj) : Below U.heap.size U (W.alloc ob) := h.alloc h.size ob

end Go.Proofs.YtgajejomibnghaaDoor
