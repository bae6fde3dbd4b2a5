/-
  The statements' own call own: two answers are the document's, each new memory.
-/
import Derived.Test.YtgbbgfjamneioaaDoorXNmInsToNmRDc
namespace Go.Proofs.YtgbbgfjamneioaaDoor
open Go.RowKit Go.IntWalk Go.Shelf

theorem two_src (W : World) : ∀ j u, (acells [(0, ByteArray.empty), (0, ByteArray.empty)])[j]? = some u → (W.alloc (.cells #[.int .i64 0, .string ⟨#[]⟩, .int .i64 0, .string ⟨#[]⟩] 52)).cell? ((⟨W.heap.size, 0, none⟩ : Addr).add j) = some u := by
  intro j u h
  rw [add_none]
  match j, h with
  | 0, h => cases h; simp
  | 1, h => cases h; simp; rfl
  | 2, h => cases h; simp
  | 3, h => cases h; simp; rfl
  | j + 4, h => simp [acells] at h
theorem own_frozen {w : World} {base : Nat} {e : TypeId} {size : Nat} {g n c k : Nat} {cs : List Value} (h : w.ownsRow base e size (.slice (some ⟨g, 0, none⟩) n c) k cs) (j : Nat) : w.frozen? ⟨g, j, none⟩ = false := by
  obtain ⟨_, ⟨h, _⟩ | ⟨g', cap', cur, he, _, hh, _⟩⟩ := h
  · cases h
  · have := Value.slice.inj he
    obtain ⟨h1, _, _⟩ := this
    cases h1
    simp [World.frozen?, hh]
theorem own_some {w : World} {base : Nat} {e : TypeId} {size : Nat} {a : Option Addr} {n c k : Nat} {cs : List Value} (h : w.ownsRow base e size (.slice a n c) k cs) (hn : 0 < n) : ∃ g, a = some ⟨g, 0, none⟩ := by
  obtain ⟨_, ⟨h, _⟩ | ⟨g', cap', cur, he, _, hh, _⟩⟩ := h
  · cases h; omega
  · have := Value.slice.inj he
    exact ⟨g', this.1⟩

set_option maxRecDepth 100000 in
set_option maxHeartbeats 2000000 in
theorem own12_any (bx by_ bw : Nat) (ax : Option Addr) (nx cx : Nat) (ay : Option Addr) (ny cy : Nat) (aw : Option Addr) (nw cw : Nat) (ns : List (Int × ByteArray)) (w : World) (hx : OwnA w bx (.slice ax nx cx) ns) (hy : OwnA w by_ (.slice ay ny cy) ns) (hw : OwnA w bw (.slice aw nw cw) ns)
    (hz : ∀ x ∈ ns, x.2.size ≤ 1048576) (hl : ns.length ≤ 1048576) (hxy : (Value.slice ay ny cy).ownBlock = none ∨ (Value.slice ay ny cy).ownBlock ≠ (Value.slice ax nx cx).ownBlock) (hxw : (Value.slice aw nw cw).ownBlock = none ∨ (Value.slice aw nw cw).ownBlock ≠ (Value.slice ax nx cx).ownBlock) (hb : bx ≤ w.heap.size) :
    Calls Tryd.prog 18 #[.slice ax nx cx, .slice ay ny cy, .slice aw nw cw] w fun e w' => e = .returned (.bool true) ∧ w.grownBy w' (Value.slice ax nx cx).ownBlock := by
  have h1 := ralike_any ax nx cx ns aw nw cw ns w (hx.ats hz) (hw.ats hz)
  rw [decide_eq_true rfl] at h1
  have HA := hide h1
  have HX := hide hx
  have HY := hide hy
  have HW := hide hw
  have HZ := hide hz
  have hnx := (hx.ats hz).hl
  have hcx := (hx.ats hz).hcap
  have hmx := (hx.ats hz).hmax
  have HXY := hide hxy
  have HXW := hide hxw
  have hcs := hx.1
  clear hx hy hw h1 hxy hxw hz
  unfold maxLen at hmx
  go_enter Tryd.func18, Tryd.ntmps18
  go_wp2_with fail
  refine HA.out.mono ?_
  rintro e w1 ⟨rfl, B1⟩
  have g1 := hide (grown_of_below (r := (Value.slice ax nx cx).ownBlock) B1)
  have HX1 := hide (HX.out.below B1)
  clear HA HX B1
  go_wp2
  go_loopw [7] (fun i wr => ∃ (k : Nat) (cs : List Value), i = .int .i64 k ∧ k ≤ nx ∧ Hid (wr.ownsRow bx 52 2 (.slice ax nx cx) nx cs ∧ w.grownBy wr (Value.slice ax nx cx).ownBlock)) (fun i _ => nx - (intOf i).toNat)
  case atStart => exact ⟨0, acells ns, rfl, Nat.zero_le _, by have h := HX1.out; unfold OwnA at h; rw [hnx] at h; exact h, g1.out⟩
  case round =>
    obtain ⟨k, cs, rfl, hk, HQ⟩ := hrel
    by_cases hlt : k < nx
    · have ltI : (k : Int) < (nx : Int) := by omega
      obtain ⟨g, rfl⟩ := own_some HQ.out.1 (by omega)
      have hcl := HQ.out.1.1
      have hce := World.ownsRow.cells HQ.out.1 (g := g) rfl (k * 2) (cs[k * 2]'(by omega)) (by rw [List.getElem?_eq_getElem (by omega)])
      rw [add_none, Nat.zero_add] at hce
      have hfr := own_frozen HQ.out.1 (k * 2)
      have HS := hide (fun u => World.ownsRow.stored HQ.out.1 (k * 2) u)
      go_wp2
      go_roundw
      case rel => exact ⟨k + 1, _, by go_num, by omega, (HS.out _).1, grown_trans HQ.out.2 (HS.out _).2⟩
      case measure => simp [intOf] <;> omega
    · obtain rfl : k = nx := by omega
      have nI : ¬ ((k : Int) < (k : Int)) := by omega
      obtain ⟨i0, hi, hz0, hz1, hz2⟩ := info_parts Tryd.infoA
      have hbw : bx ≤ wr.heap.size := Nat.le_trans hb HQ.out.2.size
      have HI := hide hi
      clear hi
      go_wp2_with (at_builtin; refine wpList_append_own_at (w := wr.alloc (.cells #[.int .i64 0, .string ⟨#[]⟩, .int .i64 0, .string ⟨#[]⟩] 52)) rfl (.tmp 22) (.tmp 25) 23 rfl bx 52 i0 _ 2 24 Tryd.underlying23 HI.out hz0 hz1 hz2 rfl (by decide) (.slice ax k cx) k cs rfl (World.ownsRow.alloc HQ.out.1 _) ⟨wr.heap.size, 0, none⟩ 2 2 (acells [(0, ByteArray.empty), (0, ByteArray.empty)]) rfl rfl (two_src wr) (acells_one _) (by unfold maxLen; omega) (by omega) (by simp; omega) ?_; intro v2 w2 ho2 hg2 _ _)
      have g2 : w.grownBy w2 (Value.slice ax k cx).ownBlock := grown_trans (grown_trans HQ.out.2 (World.grownBy_alloc _ _ _)) hg2
      have y2 : OwnA w2 by_ (.slice ay ny cy) ns := World.ownsRow.kept HY.out g2 HXY.out
      have u2 : OwnA w2 bw (.slice aw nw cw) ns := World.ownsRow.kept HW.out g2 HXW.out
      have h2 := ralike_any ay ny cy ns aw nw cw ns w2 (y2.ats HZ.out) (u2.ats HZ.out)
      rw [decide_eq_true rfl] at h2
      have H2 := hide h2
      have G2 := hide g2
      clear h2 y2 u2 g2 ho2 hg2
      refine H2.out.mono ?_
      rintro e w3 ⟨rfl, B3⟩
      go_wp2
      go_ret
      exact ⟨rfl, grown_trans G2.out (grown_of_below B3)⟩

end Go.Proofs.YtgbbgfjamneioaaDoor
