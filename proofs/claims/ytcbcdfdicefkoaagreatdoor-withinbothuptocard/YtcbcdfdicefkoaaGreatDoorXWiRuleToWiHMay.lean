/-
  within.ruleOf: the rule of a kind.
  host.May: may a general name be? What it asks of a name's bytes is handed in.
-/
import Derived.Laws.EntriesVeiled
import Derived.Laws.ResultCell
import Derived.Deep.RegionHeld
import Derived.Test.YtcbcdfdicefkoaaGreatDoorXWiBelToWiMap
import Derived.Deep.RegionHeld3
namespace Go.Proofs.YtcbcdfdicefkoaaGreatDoor
open Go.RowKit Go.Shelf Go.IntWalk

def ruleC : Array Value := #[.int .i64 1, fnV 97, fnV 98, .int .i64 2, fnV 99, fnV 100, .int .i64 4, fnV 101, fnV 102, .int .i64 7, fnV 103, fnV 104]
set_option maxRecDepth 100000 in
theorem wrules_any (w : World) : Calls Tryz.prog 65 #[] w fun e w' => e = .returned (.slice (some ⟨w.heap.size, 0, none⟩) 4 4) ∧ w' = w.alloc (.cells ruleC 52) := by
  go_enter Tryz.func65, Tryz.ntmps65
  go_wp2
  go_ret
  exact ⟨rfl, rfl⟩

/-- The kind and the two questions at a place. -/
def rk : Nat → Int | 0 => 1 | 1 => 2 | 2 => 4 | _ => 7
def rm : Nat → Value | 0 => fnV 97 | 1 => fnV 99 | 2 => fnV 101 | _ => fnV 103
def rh : Nat → Value | 0 => fnV 98 | 1 => fnV 100 | 2 => fnV 102 | _ => fnV 104
/-- Where the rule of a kind stands; 4: there is none. -/
def rAt (kind : Int) : Nat := if kind = 1 then 0 else if kind = 2 then 1 else if kind = 4 then 2 else if kind = 7 then 3 else 4
def ruleV (kind : Int) : Value := if rAt kind < 4 then .agg #[.int .i64 kind, rm (rAt kind), rh (rAt kind)] else .agg #[.int .i64 0, .nilFunc, .nilFunc]
theorem rAt_rk (kind : Int) (k : Nat) (hk : k < 4) : rk k = kind ↔ rAt kind = k := by
  unfold rAt
  rcases (by omega : k = 0 ∨ k = 1 ∨ k = 2 ∨ k = 3) with rfl | rfl | rfl | rfl <;> simp only [rk] <;> (repeat' split) <;> omega

theorem rule_cells (w : World) (k : Nat) (hk : k < 4) : (w.alloc (.cells ruleC 52)).cell? ⟨w.heap.size, k * 3, none⟩ = some (.int .i64 (rk k)) ∧
    (w.alloc (.cells ruleC 52)).cell? ⟨w.heap.size, k * 3 + 1, none⟩ = some (rm k) ∧ (w.alloc (.cells ruleC 52)).cell? ⟨w.heap.size, k * 3 + 2, none⟩ = some (rh k) := by
  rcases (by omega : k = 0 ∨ k = 1 ∨ k = 2 ∨ k = 3) with rfl | rfl | rfl | rfl <;> refine ⟨?_, ?_, ?_⟩ <;> simp [ruleC, rk, rm, rh]

theorem after3 {wr : World} {g : Nat} {u0 u1 u2 : Value} (hg : wr.heap[g]? = some (.cells #[u0, u1, u2] 52)) (x y z : Value) (o : Obj) :
    ((((wr.setCell ⟨g, 0, none⟩ x).setCell ⟨g, 1, none⟩ y).setCell ⟨g, 2, none⟩ z).alloc o).heap[g]? = some (.cells #[x, y, z] 52) := by
  have h1 := heap_setCell_same wr g 0 _ _ x hg
  have h2 := heap_setCell_same _ g 1 _ _ y h1
  have h3 := heap_setCell_same _ g 2 _ _ z h2
  rw [heap_alloc_old _ _ ((Array.getElem?_eq_some_iff.1 h3).1), h3]
  rfl
theorem three_cells {W : World} {g : Nat} {x y z : Value} (h : W.heap[g]? = some (.cells #[x, y, z] 52)) : W.cell? ⟨g, 0, none⟩ = some x ∧ W.cell? ⟨g, 1, none⟩ = some y ∧ W.cell? ⟨g, 2, none⟩ = some z := by
  refine ⟨?_, ?_, ?_⟩ <;> simp [World.cell?, h]
set_option maxRecDepth 100000 in
set_option maxHeartbeats 2000000 in
theorem ruleOf_any (kind : Int) (w : World) : Calls Tryz.prog 32 #[.int .i64 kind] w fun e w' => e = .returned (.tuple #[ruleV kind, .bool (decide (rAt kind < 4))]) ∧ Below w.heap.size w w' := by
  go_enter Tryz.func32, Tryz.ntmps32
  go_wp2_with fail
  refine (wrules_any _).mono ?_
  rintro e w1 ⟨rfl, h1⟩
  have hz : w1.heap.size = w.heap.size + 2 := by rw [h1]; simp
  have hc : Hid (∀ k, k < 4 → w1.cell? ⟨w.heap.size + 1, k * 3, none⟩ = some (.int .i64 (rk k)) ∧ w1.cell? ⟨w.heap.size + 1, k * 3 + 1, none⟩ = some (rm k) ∧ w1.cell? ⟨w.heap.size + 1, k * 3 + 2, none⟩ = some (rh k)) := fun k hk => by
    have h9 := rule_cells (w.alloc (.cells #[.int .i64 0, .nilFunc, .nilFunc] 52)) k hk
    rw [← h1] at h9
    simpa using h9
  have hr : w1.heap[w.heap.size]? = some (.cells #[.int .i64 0, .nilFunc, .nilFunc] 52) := by
    rw [h1, heap_alloc_old (w.alloc _) _ (by simp : w.heap.size < (w.alloc (.cells #[.int .i64 0, .nilFunc, .nilFunc] 52)).heap.size)]
    exact heap_alloc_new w _
  have B1 : Below w.heap.size w w1 := by rw [h1]; exact ((Below.refl _ _).alloc (Nat.le_refl _) _).alloc (by simp) _
  simp only [World.size_alloc]
  clear h1
  generalize hgw : w.heap.size = g at hc hr hz B1 ⊢
  have HR := hide hr
  have HB := hide B1
  clear hr B1
  go_wp2
  go_loopw [8] (fun v wr => ∃ k : Nat, v = .int .i64 k ∧ k ≤ 4 ∧ Hid (∀ j, j < k → rk j ≠ kind) ∧ Hid (Below w1.heap.size w1 wr)) (fun v _ => 4 - (intOf v).toNat)
  case atStart => exact ⟨0, rfl, by omega, fun j hj => absurd hj (by omega), Below.refl _ _⟩
  case round =>
    obtain ⟨k, rfl, hk, hN, hQ⟩ := hrel
    have hg : wr.heap[g]? = some (.cells #[.int .i64 0, .nilFunc, .nilFunc] 52) := (hQ.out.block g (by omega)).trans HR.out
    have z0 : wr.cell? ⟨g, 0, none⟩ = some (.int .i64 0) := by simp [World.cell?, hg]
    have z1 : wr.cell? ⟨g, 1, none⟩ = some .nilFunc := by simp [World.cell?, hg]
    have z2 : wr.cell? ⟨g, 2, none⟩ = some .nilFunc := by simp [World.cell?, hg]
    have f0 : wr.frozen? ⟨g, 0, none⟩ = false := by simp [World.frozen?, hg]
    have f1 : wr.frozen? ⟨g, 1, none⟩ = false := by simp [World.frozen?, hg]
    have f2 : wr.frozen? ⟨g, 2, none⟩ = false := by simp [World.frozen?, hg]
    have hgl : g < wr.heap.size := by have := hQ.out.size; omega
    have hgA : ∀ o, (wr.alloc o).heap[g]? = some (.cells #[.int .i64 0, .nilFunc, .nilFunc] 52) := fun o => (heap_alloc_old wr o hgl).trans hg
    have a0 : ∀ o, (wr.alloc o).cell? ⟨g, 0, none⟩ = some (.int .i64 0) := fun o => by simp [World.cell?, hgA o]
    have a1 : ∀ o, (wr.alloc o).cell? ⟨g, 1, none⟩ = some .nilFunc := fun o => by simp [World.cell?, hgA o]
    have a2 : ∀ o, (wr.alloc o).cell? ⟨g, 2, none⟩ = some .nilFunc := fun o => by simp [World.cell?, hgA o]
    have b0 : ∀ o, (wr.alloc o).frozen? ⟨g, 0, none⟩ = false := fun o => by simp [World.frozen?, hgA o]
    have b1 : ∀ o, (wr.alloc o).frozen? ⟨g, 1, none⟩ = false := fun o => by simp [World.frozen?, hgA o]
    have b2 : ∀ o, (wr.alloc o).frozen? ⟨g, 2, none⟩ = false := fun o => by simp [World.frozen?, hgA o]
    have hgO := hide hg
    clear hg hgA
    by_cases h4 : k < 4
    · have h4I : (k : Int) < 4 := by omega
      obtain ⟨c0, c1, c2⟩ := hc.out k h4
      replace c0 := (hQ.out.cell (p := ⟨g + 1, k * 3, none⟩) (lt_of_cell c0)).trans c0
      replace c1 := (hQ.out.cell (p := ⟨g + 1, k * 3 + 1, none⟩) (lt_of_cell c1)).trans c1
      replace c2 := (hQ.out.cell (p := ⟨g + 1, k * 3 + 2, none⟩) (lt_of_cell c2)).trans c2
      have hrk := rAt_rk kind k h4
      have hBr : Below g w wr := HB.out.trans (hQ.out.mono (by omega))
      by_cases he : rk k = kind
      · have hV : ruleV kind = .agg #[.int .i64 (rk k), rm k, rh k] ∧ decide (rAt kind < 4) = true := by
          have h8 := hrk.1 he
          unfold ruleV
          rw [h8, if_pos h4, he]
          exact ⟨rfl, by simpa using h4⟩
        have HV := hide hV
        clear hV hrk
        rcases (by omega : k = 0 ∨ k = 1 ∨ k = 2 ∨ k = 3) with rfl | rfl | rfl | rfl
        · simp only [rk, rm, rh, fnV] at he c0 c1 c2
          subst he
          go_wp2
          have hz3 := fun x y z o => three_cells (after3 hgO.out x y z o)
          refine bodyPost_ret (results_cell_tmp rfl _ _ _ |>.trans (by simp [go_sem, hz3]; rfl)) rfl ⟨by rw [HV.out.1, HV.out.2]; rfl, ?_⟩
          rw [hgw]
          exact (((hBr.setCell (Nat.le_refl _) _).setCell (Nat.le_refl _) _).setCell (Nat.le_refl _) _).alloc (by simp; omega) _
        · simp only [rk, rm, rh, fnV] at he c0 c1 c2
          subst he
          go_wp2
          have hz3 := fun x y z o => three_cells (after3 hgO.out x y z o)
          refine bodyPost_ret (results_cell_tmp rfl _ _ _ |>.trans (by simp [go_sem, hz3]; rfl)) rfl ⟨by rw [HV.out.1, HV.out.2]; rfl, ?_⟩
          rw [hgw]
          exact (((hBr.setCell (Nat.le_refl _) _).setCell (Nat.le_refl _) _).setCell (Nat.le_refl _) _).alloc (by simp; omega) _
        · simp only [rk, rm, rh, fnV] at he c0 c1 c2
          subst he
          go_wp2
          have hz3 := fun x y z o => three_cells (after3 hgO.out x y z o)
          refine bodyPost_ret (results_cell_tmp rfl _ _ _ |>.trans (by simp [go_sem, hz3]; rfl)) rfl ⟨by rw [HV.out.1, HV.out.2]; rfl, ?_⟩
          rw [hgw]
          exact (((hBr.setCell (Nat.le_refl _) _).setCell (Nat.le_refl _) _).setCell (Nat.le_refl _) _).alloc (by simp; omega) _
        · simp only [rk, rm, rh, fnV] at he c0 c1 c2
          subst he
          go_wp2
          have hz3 := fun x y z o => three_cells (after3 hgO.out x y z o)
          refine bodyPost_ret (results_cell_tmp rfl _ _ _ |>.trans (by simp [go_sem, hz3]; rfl)) rfl ⟨by rw [HV.out.1, HV.out.2]; rfl, ?_⟩
          rw [hgw]
          exact (((hBr.setCell (Nat.le_refl _) _).setCell (Nat.le_refl _) _).setCell (Nat.le_refl _) _).alloc (by simp; omega) _
      · have hN2 : Hid (∀ j, j < k + 1 → rk j ≠ kind) := fun j hj => by
          by_cases hjk : j < k
          · exact hN.out j hjk
          · obtain rfl : j = k := by omega
            exact he
        clear hrk hN
        rcases (by omega : k = 0 ∨ k = 1 ∨ k = 2 ∨ k = 3) with rfl | rfl | rfl | rfl
        · simp only [rk, rm, rh, fnV] at he c0 c1 c2
          go_wp2
          go_roundw
          case rel => exact ⟨0 + 1, rfl, by omega, hN2, hQ.out.alloc hQ.out.size _⟩
          case measure => simp [intOf]
        · simp only [rk, rm, rh, fnV] at he c0 c1 c2
          go_wp2
          go_roundw
          case rel => exact ⟨1 + 1, rfl, by omega, hN2, hQ.out.alloc hQ.out.size _⟩
          case measure => simp [intOf]
        · simp only [rk, rm, rh, fnV] at he c0 c1 c2
          go_wp2
          go_roundw
          case rel => exact ⟨2 + 1, rfl, by omega, hN2, hQ.out.alloc hQ.out.size _⟩
          case measure => simp [intOf]
        · simp only [rk, rm, rh, fnV] at he c0 c1 c2
          go_wp2
          go_roundw
          case rel => exact ⟨3 + 1, rfl, by omega, hN2, hQ.out.alloc hQ.out.size _⟩
          case measure => simp [intOf]
    · have h4I : ¬ (k : Int) < 4 := by omega
      obtain rfl : k = 4 := by omega
      have hV : ruleV kind = .agg #[.int .i64 0, .nilFunc, .nilFunc] ∧ decide (rAt kind < 4) = false := by
        have h8 : ¬ rAt kind < 4 := fun h => hN.out (rAt kind) h ((rAt_rk kind _ h).2 rfl)
        unfold ruleV
        rw [if_neg h8]
        exact ⟨rfl, by simpa using h8⟩
      have HV := hide hV
      clear hV
      have hBr : Below g w wr := HB.out.trans (hQ.out.mono (by omega))
      go_wp2
      refine bodyPost_ret (v := .tuple #[.agg #[.int .i64 0, .nilFunc, .nilFunc], .bool false]) (by simp [results, Tryz.results32, go_sem, z0, z1, z2]) rfl ⟨by rw [HV.out.1, HV.out.2], ?_⟩
      try rw [hgw]
      exact ((hBr.setCell (Nat.le_refl _) _).setCell (Nat.le_refl _) _).setCell (Nat.le_refl _) _

end Go.Proofs.YtcbcdfdicefkoaaGreatDoor

namespace Go.Proofs.YtcbcdfdicefkoaaGreatDoor
open Go.RowKit Go.Shelf Go.IntWalk

/-- May a general name be? N: are its bytes a name's? -/
def hmay (kind : Int) (s : List UInt8) (N : Bool) : Bool := if kind = 1 then mailL s else if kind = 2 then (dnsL s || wildL s) else if kind = 4 then N else if kind = 7 then ipL s else false

set_option maxRecDepth 100000 in
theorem dnsOrWild_kp (w0 : World) (s : List UInt8) (hs : s.length ≤ 1048576) (m : Int) (w : World) (hm : Kp w0 m w) :
    Calls Tryz.prog 78 #[.string (tx s)] w fun e w' => e = .returned (.bool (dnsL s || wildL s)) ∧ Kp w0 m w' := by
  have d1 := hide (dns_any s hs m w hm.2)
  have d2 : Hid (∀ W, Kp w0 m W → Calls Tryz.prog 21 #[.string (tx s)] W fun e W' => e = .returned (.bool (wildL s)) ∧ Kp w0 m W') := fun W h => (wild_any s hs m W h.2).mono fun e W' ⟨h1, h2⟩ => ⟨h1, h.next h2⟩
  have HM := hide hm
  clear hm
  generalize dnsL s = D at *
  generalize wildL s = Wd at *
  cases D with
  | true =>
    go_enter Tryz.func78, Tryz.ntmps78
    go_wp2_with fail
    refine d1.out.mono ?_
    rintro e w1 ⟨rfl, B1⟩
    go_wp2
    go_ret
    exact ⟨rfl, HM.out.next B1⟩
  | false =>
    go_enter Tryz.func78, Tryz.ntmps78
    go_wp2_with fail
    refine d1.out.mono ?_
    rintro e w1 ⟨rfl, B1⟩
    go_wp2_with fail
    refine (d2.out _ (HM.out.next B1)).mono ?_
    rintro e w2 ⟨rfl, K2⟩
    go_wp2
    go_ret
    exact ⟨by simp, K2⟩

set_option maxRecDepth 100000 in
set_option maxHeartbeats 2000000 in
theorem hmay_kp (w0 : World) (kind : Int) (hkind : (Lit.int .i64 kind).wf = true) (s : List UInt8) (hs : s.length ≤ 1048576) (N : Bool) (m : Int)
    (hN : kind = 4 → ∀ W, Kp w0 m W → Calls Tryz.prog 79 #[.string (tx s)] W fun e W' => e = .returned (.bool N) ∧ Kp w0 m W') (w : World) (hm : Kp w0 m w) :
    Calls Tryz.prog 22 #[.agg #[.int .i64 kind, .string (tx s)]] w fun e w' => e = .returned (.bool (hmay kind s N)) ∧ Kp w0 m w' := by
  by_cases h1 : kind = 1
  · subst h1
    have D : Hid (∀ W, Kp w0 m W → Calls Tryz.prog 77 #[.string (tx s)] W fun e W' => e = .returned (.bool (hmay 1 s N)) ∧ Kp w0 m W') := fun W h => (email_any s hs m W h.2).mono fun e W' ⟨k1, k2⟩ => ⟨k1, h.next k2⟩
    have LK : Hid (∀ W b, W.heap[b]? = some (.map rulesM 4) → (Instr.lookup 69 (.map (some b)) (.int .i64 1) true).run Tryz.prog W = .ok (.tuple #[fnV 77, .bool true]) W) := fun W b hb =>
      look_yes hb 1 _ (by decide) rules_keys (by intro e he hk; simp [rulesM] at he; rcases he with rfl | rfl | rfl | rfl <;> first | rfl | (exfalso; revert hk; simp)) ⟨⟨.int .i64 1, fnV 77, 0⟩, by simp [rulesM], rfl⟩
    unfold fnV at LK
    generalize hkd : (1 : Int) = kind at *
    have BX := nbelowW w (.cells #[.int .i64 kind, .string (tx s)] 27)
    have c0 : (w.alloc (.cells #[.int .i64 kind, .string (tx s)] 27)).cell? ⟨w.heap.size, 0, none⟩ = some (.int .i64 kind) := by simp
    have c1 : (w.alloc (.cells #[.int .i64 kind, .string (tx s)] 27)).cell? ⟨w.heap.size, 1, none⟩ = some (.string (tx s)) := by simp
    have KX := hide (hm.next BX)
    go_enter Tryz.func22, Tryz.ntmps22
    go_wp2_with fail
    go_region_held3 (fun W => W.cell? ⟨w.heap.size, 0, none⟩ = some (.int .i64 kind) ∧ W.cell? ⟨w.heap.size, 1, none⟩ = some (.string (tx s))) (go_keep) (first | (go_at_call 50; refine (hrules_any _).mono ?_; rintro e w1 ⟨b, rfl, hb, B1⟩; have lk := LK.out w1 b hb; have k0 := (B1.cell (p := ⟨w.heap.size, 0, none⟩) (lt_of_cell c0)).trans c0; have k1 := (B1.cell (p := ⟨w.heap.size, 1, none⟩) (lt_of_cell c1)).trans c1))
    have K1 := hide ((KX.out.next ((Below.refl _ _).drew)).next B1)
    clear B1 BX hb KX
    go_wp2_with fail
    refine (D.out _ K1.out).mono ?_
    rintro e w2 ⟨rfl, K2⟩
    go_wp2
    go_ret
    exact ⟨rfl, K2⟩
  by_cases h2 : kind = 2
  · subst h2
    have D : Hid (∀ W, Kp w0 m W → Calls Tryz.prog 78 #[.string (tx s)] W fun e W' => e = .returned (.bool (hmay 2 s N)) ∧ Kp w0 m W') := dnsOrWild_kp w0 s hs m
    have LK : Hid (∀ W b, W.heap[b]? = some (.map rulesM 4) → (Instr.lookup 69 (.map (some b)) (.int .i64 2) true).run Tryz.prog W = .ok (.tuple #[fnV 78, .bool true]) W) := fun W b hb =>
      look_yes hb 2 _ (by decide) rules_keys (by intro e he hk; simp [rulesM] at he; rcases he with rfl | rfl | rfl | rfl <;> first | rfl | (exfalso; revert hk; simp)) ⟨⟨.int .i64 2, fnV 78, 1⟩, by simp [rulesM], rfl⟩
    unfold fnV at LK
    generalize hkd : (2 : Int) = kind at *
    have BX := nbelowW w (.cells #[.int .i64 kind, .string (tx s)] 27)
    have c0 : (w.alloc (.cells #[.int .i64 kind, .string (tx s)] 27)).cell? ⟨w.heap.size, 0, none⟩ = some (.int .i64 kind) := by simp
    have c1 : (w.alloc (.cells #[.int .i64 kind, .string (tx s)] 27)).cell? ⟨w.heap.size, 1, none⟩ = some (.string (tx s)) := by simp
    have KX := hide (hm.next BX)
    go_enter Tryz.func22, Tryz.ntmps22
    go_wp2_with fail
    go_region_held3 (fun W => W.cell? ⟨w.heap.size, 0, none⟩ = some (.int .i64 kind) ∧ W.cell? ⟨w.heap.size, 1, none⟩ = some (.string (tx s))) (go_keep) (first | (go_at_call 50; refine (hrules_any _).mono ?_; rintro e w1 ⟨b, rfl, hb, B1⟩; have lk := LK.out w1 b hb; have k0 := (B1.cell (p := ⟨w.heap.size, 0, none⟩) (lt_of_cell c0)).trans c0; have k1 := (B1.cell (p := ⟨w.heap.size, 1, none⟩) (lt_of_cell c1)).trans c1))
    have K1 := hide ((KX.out.next ((Below.refl _ _).drew)).next B1)
    clear B1 BX hb KX
    go_wp2_with fail
    refine (D.out _ K1.out).mono ?_
    rintro e w2 ⟨rfl, K2⟩
    go_wp2
    go_ret
    exact ⟨rfl, K2⟩
  by_cases h4 : kind = 4
  · subst h4
    have D : Hid (∀ W, Kp w0 m W → Calls Tryz.prog 79 #[.string (tx s)] W fun e W' => e = .returned (.bool (hmay 4 s N)) ∧ Kp w0 m W') := hN rfl
    have LK : Hid (∀ W b, W.heap[b]? = some (.map rulesM 4) → (Instr.lookup 69 (.map (some b)) (.int .i64 4) true).run Tryz.prog W = .ok (.tuple #[fnV 79, .bool true]) W) := fun W b hb =>
      look_yes hb 4 _ (by decide) rules_keys (by intro e he hk; simp [rulesM] at he; rcases he with rfl | rfl | rfl | rfl <;> first | rfl | (exfalso; revert hk; simp)) ⟨⟨.int .i64 4, fnV 79, 2⟩, by simp [rulesM], rfl⟩
    unfold fnV at LK
    generalize hkd : (4 : Int) = kind at *
    have BX := nbelowW w (.cells #[.int .i64 kind, .string (tx s)] 27)
    have c0 : (w.alloc (.cells #[.int .i64 kind, .string (tx s)] 27)).cell? ⟨w.heap.size, 0, none⟩ = some (.int .i64 kind) := by simp
    have c1 : (w.alloc (.cells #[.int .i64 kind, .string (tx s)] 27)).cell? ⟨w.heap.size, 1, none⟩ = some (.string (tx s)) := by simp
    have KX := hide (hm.next BX)
    go_enter Tryz.func22, Tryz.ntmps22
    go_wp2_with fail
    go_region_held3 (fun W => W.cell? ⟨w.heap.size, 0, none⟩ = some (.int .i64 kind) ∧ W.cell? ⟨w.heap.size, 1, none⟩ = some (.string (tx s))) (go_keep) (first | (go_at_call 50; refine (hrules_any _).mono ?_; rintro e w1 ⟨b, rfl, hb, B1⟩; have lk := LK.out w1 b hb; have k0 := (B1.cell (p := ⟨w.heap.size, 0, none⟩) (lt_of_cell c0)).trans c0; have k1 := (B1.cell (p := ⟨w.heap.size, 1, none⟩) (lt_of_cell c1)).trans c1))
    have K1 := hide ((KX.out.next ((Below.refl _ _).drew)).next B1)
    clear B1 BX hb KX
    go_wp2_with fail
    refine (D.out _ K1.out).mono ?_
    rintro e w2 ⟨rfl, K2⟩
    go_wp2
    go_ret
    exact ⟨rfl, K2⟩
  by_cases h7 : kind = 7
  · subst h7
    have D : Hid (∀ W, Kp w0 m W → Calls Tryz.prog 80 #[.string (tx s)] W fun e W' => e = .returned (.bool (hmay 7 s N)) ∧ Kp w0 m W') := fun W h => (ip_any s W).mono fun e W' ⟨k1, k2⟩ => ⟨k1, by rw [k2]; exact h⟩
    have LK : Hid (∀ W b, W.heap[b]? = some (.map rulesM 4) → (Instr.lookup 69 (.map (some b)) (.int .i64 7) true).run Tryz.prog W = .ok (.tuple #[fnV 80, .bool true]) W) := fun W b hb =>
      look_yes hb 7 _ (by decide) rules_keys (by intro e he hk; simp [rulesM] at he; rcases he with rfl | rfl | rfl | rfl <;> first | rfl | (exfalso; revert hk; simp)) ⟨⟨.int .i64 7, fnV 80, 3⟩, by simp [rulesM], rfl⟩
    unfold fnV at LK
    generalize hkd : (7 : Int) = kind at *
    have BX := nbelowW w (.cells #[.int .i64 kind, .string (tx s)] 27)
    have c0 : (w.alloc (.cells #[.int .i64 kind, .string (tx s)] 27)).cell? ⟨w.heap.size, 0, none⟩ = some (.int .i64 kind) := by simp
    have c1 : (w.alloc (.cells #[.int .i64 kind, .string (tx s)] 27)).cell? ⟨w.heap.size, 1, none⟩ = some (.string (tx s)) := by simp
    have KX := hide (hm.next BX)
    go_enter Tryz.func22, Tryz.ntmps22
    go_wp2_with fail
    go_region_held3 (fun W => W.cell? ⟨w.heap.size, 0, none⟩ = some (.int .i64 kind) ∧ W.cell? ⟨w.heap.size, 1, none⟩ = some (.string (tx s))) (go_keep) (first | (go_at_call 50; refine (hrules_any _).mono ?_; rintro e w1 ⟨b, rfl, hb, B1⟩; have lk := LK.out w1 b hb; have k0 := (B1.cell (p := ⟨w.heap.size, 0, none⟩) (lt_of_cell c0)).trans c0; have k1 := (B1.cell (p := ⟨w.heap.size, 1, none⟩) (lt_of_cell c1)).trans c1))
    have K1 := hide ((KX.out.next ((Below.refl _ _).drew)).next B1)
    clear B1 BX hb KX
    go_wp2_with fail
    refine (D.out _ K1.out).mono ?_
    rintro e w2 ⟨rfl, K2⟩
    go_wp2
    go_ret
    exact ⟨rfl, K2⟩
  have hF : Hid (hmay kind s N = false) := by unfold Hid hmay; rw [if_neg h1, if_neg h2, if_neg h4, if_neg h7]
  have LK : Hid (∀ W b, W.heap[b]? = some (.map rulesM 4) → (Instr.lookup 69 (.map (some b)) (.int .i64 kind) true).run Tryz.prog W = .ok (.tuple #[.nilFunc, .bool false]) W) := fun W b hb =>
    look_no hb kind hkind rules_keys (by intro e he hk; simp [rulesM] at he; rcases he with rfl | rfl | rfl | rfl <;> (simp at hk; omega))
  have BX := nbelowW w (.cells #[.int .i64 kind, .string (tx s)] 27)
  have c0 : (w.alloc (.cells #[.int .i64 kind, .string (tx s)] 27)).cell? ⟨w.heap.size, 0, none⟩ = some (.int .i64 kind) := by simp
  have c1 : (w.alloc (.cells #[.int .i64 kind, .string (tx s)] 27)).cell? ⟨w.heap.size, 1, none⟩ = some (.string (tx s)) := by simp
  have KX := hide (hm.next BX)
  go_enter Tryz.func22, Tryz.ntmps22
  go_wp2_with fail
  go_region_held3 (fun W => W.cell? ⟨w.heap.size, 0, none⟩ = some (.int .i64 kind) ∧ W.cell? ⟨w.heap.size, 1, none⟩ = some (.string (tx s))) (go_keep) (first | (go_at_call 50; refine (hrules_any _).mono ?_; rintro e w1 ⟨b, rfl, hb, B1⟩; have lk := LK.out w1 b hb; have k0 := (B1.cell (p := ⟨w.heap.size, 0, none⟩) (lt_of_cell c0)).trans c0; have k1 := (B1.cell (p := ⟨w.heap.size, 1, none⟩) (lt_of_cell c1)).trans c1))
  have K1 := hide ((KX.out.next ((Below.refl _ _).drew)).next B1)
  clear B1 BX hb KX
  go_wp2
  go_ret
  exact ⟨by rw [hF.out]; rfl, K1.out⟩

end Go.Proofs.YtcbcdfdicefkoaaGreatDoor
