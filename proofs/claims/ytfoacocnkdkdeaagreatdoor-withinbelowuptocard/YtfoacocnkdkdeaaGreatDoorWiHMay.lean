/-
  host.May: may a general name be? What it asks of a name's bytes is handed in.
-/
import Derived.Deep.RegionHeld3
import Derived.Test.YtfoacocnkdkdeaaGreatDoorWiMap
namespace Go.Proofs.YtfoacocnkdkdeaaGreatDoor
open Go.RowKit Go.Shelf Go.IntWalk

/-- May a general name be? N: are its bytes a name's? -/
def hmay (kind : Int) (s : List UInt8) (N : Bool) : Bool := if kind = 1 then mailL s else if kind = 2 then (dnsL s || wildL s) else if kind = 4 then N else if kind = 7 then ipL s else false

set_option maxRecDepth 100000 in
theorem dnsOrWild_kp (w0 : World) (s : List UInt8) (hs : s.length ≤ 1048576) (m : Int) (w : World) (hm : Kp w0 m w) :
    Calls Tryz.prog 78 #[.string (tx s)] w fun e w' => e = .returned (.bool (dnsL s || wildL s)) ∧ Kp w0 m w' := by
  have d1 := hide (dns_any s hs m w hm.2)
  have d2 : Hid (∀ W, Kp w0 m W → Calls Tryz.prog 21 #[.string (tx s)] W fun e W' => e = .returned (.bool (wildL s)) ∧ Kp w0 m W') := fun W h => (wild_any s hs m W h.2).mono fun e W' ⟨h1, h2⟩ => ⟨h1, h.next h2⟩
  have HM := hide hm
  clear hm
  generalize dnsL s = D at *
  generalize wildL s = Wd at *
  cases D with
  | true =>
    go_enter Tryz.func78, Tryz.ntmps78
    go_wp2_with fail
    refine d1.out.mono ?_
    rintro e w1 ⟨rfl, B1⟩
    go_wp2
    go_ret
    exact ⟨rfl, HM.out.next B1⟩
  | false =>
    go_enter Tryz.func78, Tryz.ntmps78
    go_wp2_with fail
    refine d1.out.mono ?_
    rintro e w1 ⟨rfl, B1⟩
    go_wp2_with fail
    refine (d2.out _ (HM.out.next B1)).mono ?_
    rintro e w2 ⟨rfl, K2⟩
    go_wp2
    go_ret
    exact ⟨by simp, K2⟩

set_option maxRecDepth 100000 in
set_option maxHeartbeats 2000000 in
theorem hmay_kp (w0 : World) (kind : Int) (hkind : (Lit.int .i64 kind).wf = true) (s : List UInt8) (hs : s.length ≤ 1048576) (N : Bool) (m : Int)
    (hN : kind = 4 → ∀ W, Kp w0 m W → Calls Tryz.prog 79 #[.string (tx s)] W fun e W' => e = .returned (.bool N) ∧ Kp w0 m W') (w : World) (hm : Kp w0 m w) :
    Calls Tryz.prog 22 #[.agg #[.int .i64 kind, .string (tx s)]] w fun e w' => e = .returned (.bool (hmay kind s N)) ∧ Kp w0 m w' := by
  by_cases h1 : kind = 1
  · subst h1
    have D : Hid (∀ W, Kp w0 m W → Calls Tryz.prog 77 #[.string (tx s)] W fun e W' => e = .returned (.bool (hmay 1 s N)) ∧ Kp w0 m W') := fun W h => (email_any s hs m W h.2).mono fun e W' ⟨k1, k2⟩ => ⟨k1, h.next k2⟩
    have LK : Hid (∀ W b, W.heap[b]? = some (.map rulesM 4) → (Instr.lookup 69 (.map (some b)) (.int .i64 1) true).run Tryz.prog W = .ok (.tuple #[fnV 77, .bool true]) W) := fun W b hb =>
      look_yes hb 1 _ (by decide) rules_keys (by intro e he hk; simp [rulesM] at he; rcases he with rfl | rfl | rfl | rfl <;> first | rfl | (exfalso; revert hk; simp)) ⟨⟨.int .i64 1, fnV 77, 0⟩, by simp [rulesM], rfl⟩
    unfold fnV at LK
    generalize hkd : (1 : Int) = kind at *
    have BX := nbelowW w (.cells #[.int .i64 kind, .string (tx s)] 27)
    have c0 : (w.alloc (.cells #[.int .i64 kind, .string (tx s)] 27)).cell? ⟨w.heap.size, 0, none⟩ = some (.int .i64 kind) := by simp
    have c1 : (w.alloc (.cells #[.int .i64 kind, .string (tx s)] 27)).cell? ⟨w.heap.size, 1, none⟩ = some (.string (tx s)) := by simp
    have KX := hide (hm.next BX)
    go_enter Tryz.func22, Tryz.ntmps22
    go_wp2_with fail
    go_region_held3 (fun W => W.cell? ⟨w.heap.size, 0, none⟩ = some (.int .i64 kind) ∧ W.cell? ⟨w.heap.size, 1, none⟩ = some (.string (tx s))) (go_keep) (first | (go_at_call 50; refine (hrules_any _).mono ?_; rintro e w1 ⟨b, rfl, hb, B1⟩; have lk := LK.out w1 b hb; have k0 := (B1.cell (p := ⟨w.heap.size, 0, none⟩) (lt_of_cell c0)).trans c0; have k1 := (B1.cell (p := ⟨w.heap.size, 1, none⟩) (lt_of_cell c1)).trans c1))
    have K1 := hide ((KX.out.next ((Below.refl _ _).drew)).next B1)
    clear B1 BX hb KX
    go_wp2_with fail
    refine (D.out _ K1.out).mono ?_
    rintro e w2 ⟨rfl, K2⟩
    go_wp2
    go_ret
    exact ⟨rfl, K2⟩
  by_cases h2 : kind = 2
  · subst h2
    have D : Hid (∀ W, Kp w0 m W → Calls Tryz.prog 78 #[.string (tx s)] W fun e W' => e = .returned (.bool (hmay 2 s N)) ∧ Kp w0 m W') := dnsOrWild_kp w0 s hs m
    have LK : Hid (∀ W b, W.heap[b]? = some (.map rulesM 4) → (Instr.lookup 69 (.map (some b)) (.int .i64 2) true).run Tryz.prog W = .ok (.tuple #[fnV 78, .bool true]) W) := fun W b hb =>
      look_yes hb 2 _ (by decide) rules_keys (by intro e he hk; simp [rulesM] at he; rcases he with rfl | rfl | rfl | rfl <;> first | rfl | (exfalso; revert hk; simp)) ⟨⟨.int .i64 2, fnV 78, 1⟩, by simp [rulesM], rfl⟩
    unfold fnV at LK
    generalize hkd : (2 : Int) = kind at *
    have BX := nbelowW w (.cells #[.int .i64 kind, .string (tx s)] 27)
    have c0 : (w.alloc (.cells #[.int .i64 kind, .string (tx s)] 27)).cell? ⟨w.heap.size, 0, none⟩ = some (.int .i64 kind) := by simp
    have c1 : (w.alloc (.cells #[.int .i64 kind, .string (tx s)] 27)).cell? ⟨w.heap.size, 1, none⟩ = some (.string (tx s)) := by simp
    have KX := hide (hm.next BX)
    go_enter Tryz.func22, Tryz.ntmps22
    go_wp2_with fail
    go_region_held3 (fun W => W.cell? ⟨w.heap.size, 0, none⟩ = some (.int .i64 kind) ∧ W.cell? ⟨w.heap.size, 1, none⟩ = some (.string (tx s))) (go_keep) (first | (go_at_call 50; refine (hrules_any _).mono ?_; rintro e w1 ⟨b, rfl, hb, B1⟩; have lk := LK.out w1 b hb; have k0 := (B1.cell (p := ⟨w.heap.size, 0, none⟩) (lt_of_cell c0)).trans c0; have k1 := (B1.cell (p := ⟨w.heap.size, 1, none⟩) (lt_of_cell c1)).trans c1))
    have K1 := hide ((KX.out.next ((Below.refl _ _).drew)).next B1)
    clear B1 BX hb KX
    go_wp2_with fail
    refine (D.out _ K1.out).mono ?_
    rintro e w2 ⟨rfl, K2⟩
    go_wp2
    go_ret
    exact ⟨rfl, K2⟩
  by_cases h4 : kind = 4
  · subst h4
    have D : Hid (∀ W, Kp w0 m W → Calls Tryz.prog 79 #[.string (tx s)] W fun e W' => e = .returned (.bool (hmay 4 s N)) ∧ Kp w0 m W') := hN rfl
    have LK : Hid (∀ W b, W.heap[b]? = some (.map rulesM 4) → (Instr.lookup 69 (.map (some b)) (.int .i64 4) true).run Tryz.prog W = .ok (.tuple #[fnV 79, .bool true]) W) := fun W b hb =>
      look_yes hb 4 _ (by decide) rules_keys (by intro e he hk; simp [rulesM] at he; rcases he with rfl | rfl | rfl | rfl <;> first | rfl | (exfalso; revert hk; simp)) ⟨⟨.int .i64 4, fnV 79, 2⟩, by simp [rulesM], rfl⟩
    unfold fnV at LK
    generalize hkd : (4 : Int) = kind at *
    have BX := nbelowW w (.cells #[.int .i64 kind, .string (tx s)] 27)
    have c0 : (w.alloc (.cells #[.int .i64 kind, .string (tx s)] 27)).cell? ⟨w.heap.size, 0, none⟩ = some (.int .i64 kind) := by simp
    have c1 : (w.alloc (.cells #[.int .i64 kind, .string (tx s)] 27)).cell? ⟨w.heap.size, 1, none⟩ = some (.string (tx s)) := by simp
    have KX := hide (hm.next BX)
    go_enter Tryz.func22, Tryz.ntmps22
    go_wp2_with fail
    go_region_held3 (fun W => W.cell? ⟨w.heap.size, 0, none⟩ = some (.int .i64 kind) ∧ W.cell? ⟨w.heap.size, 1, none⟩ = some (.string (tx s))) (go_keep) (first | (go_at_call 50; refine (hrules_any _).mono ?_; rintro e w1 ⟨b, rfl, hb, B1⟩; have lk := LK.out w1 b hb; have k0 := (B1.cell (p := ⟨w.heap.size, 0, none⟩) (lt_of_cell c0)).trans c0; have k1 := (B1.cell (p := ⟨w.heap.size, 1, none⟩) (lt_of_cell c1)).trans c1))
    have K1 := hide ((KX.out.next ((Below.refl _ _).drew)).next B1)
    clear B1 BX hb KX
    go_wp2_with fail
    refine (D.out _ K1.out).mono ?_
    rintro e w2 ⟨rfl, K2⟩
    go_wp2
    go_ret
    exact ⟨rfl, K2⟩
  by_cases h7 : kind = 7
  · subst h7
    have D : Hid (∀ W, Kp w0 m W → Calls Tryz.prog 80 #[.string (tx s)] W fun e W' => e = .returned (.bool (hmay 7 s N)) ∧ Kp w0 m W') := fun W h => (ip_any s W).mono fun e W' ⟨k1, k2⟩ => ⟨k1, by rw [k2]; exact h⟩
    have LK : Hid (∀ W b, W.heap[b]? = some (.map rulesM 4) → (Instr.lookup 69 (.map (some b)) (.int .i64 7) true).run Tryz.prog W = .ok (.tuple #[fnV 80, .bool true]) W) := fun W b hb =>
      look_yes hb 7 _ (by decide) rules_keys (by intro e he hk; simp [rulesM] at he; rcases he with rfl | rfl | rfl | rfl <;> first | rfl | (exfalso; revert hk; simp)) ⟨⟨.int .i64 7, fnV 80, 3⟩, by simp [rulesM], rfl⟩
    unfold fnV at LK
    generalize hkd : (7 : Int) = kind at *
    have BX := nbelowW w (.cells #[.int .i64 kind, .string (tx s)] 27)
    have c0 : (w.alloc (.cells #[.int .i64 kind, .string (tx s)] 27)).cell? ⟨w.heap.size, 0, none⟩ = some (.int .i64 kind) := by simp
    have c1 : (w.alloc (.cells #[.int .i64 kind, .string (tx s)] 27)).cell? ⟨w.heap.size, 1, none⟩ = some (.string (tx s)) := by simp
    have KX := hide (hm.next BX)
    go_enter Tryz.func22, Tryz.ntmps22
    go_wp2_with fail
    go_region_held3 (fun W => W.cell? ⟨w.heap.size, 0, none⟩ = some (.int .i64 kind) ∧ W.cell? ⟨w.heap.size, 1, none⟩ = some (.string (tx s))) (go_keep) (first | (go_at_call 50; refine (hrules_any _).mono ?_; rintro e w1 ⟨b, rfl, hb, B1⟩; have lk := LK.out w1 b hb; have k0 := (B1.cell (p := ⟨w.heap.size, 0, none⟩) (lt_of_cell c0)).trans c0; have k1 := (B1.cell (p := ⟨w.heap.size, 1, none⟩) (lt_of_cell c1)).trans c1))
    have K1 := hide ((KX.out.next ((Below.refl _ _).drew)).next B1)
    clear B1 BX hb KX
    go_wp2_with fail
    refine (D.out _ K1.out).mono ?_
    rintro e w2 ⟨rfl, K2⟩
    go_wp2
    go_ret
    exact ⟨rfl, K2⟩
  have hF : Hid (hmay kind s N = false) := by unfold Hid hmay; rw [if_neg h1, if_neg h2, if_neg h4, if_neg h7]
  have LK : Hid (∀ W b, W.heap[b]? = some (.map rulesM 4) → (Instr.lookup 69 (.map (some b)) (.int .i64 kind) true).run Tryz.prog W = .ok (.tuple #[.nilFunc, .bool false]) W) := fun W b hb =>
    look_no hb kind hkind rules_keys (by intro e he hk; simp [rulesM] at he; rcases he with rfl | rfl | rfl | rfl <;> (simp at hk; omega))
  have BX := nbelowW w (.cells #[.int .i64 kind, .string (tx s)] 27)
  have c0 : (w.alloc (.cells #[.int .i64 kind, .string (tx s)] 27)).cell? ⟨w.heap.size, 0, none⟩ = some (.int .i64 kind) := by simp
  have c1 : (w.alloc (.cells #[.int .i64 kind, .string (tx s)] 27)).cell? ⟨w.heap.size, 1, none⟩ = some (.string (tx s)) := by simp
  have KX := hide (hm.next BX)
  go_enter Tryz.func22, Tryz.ntmps22
  go_wp2_with fail
  go_region_held3 (fun W => W.cell? ⟨w.heap.size, 0, none⟩ = some (.int .i64 kind) ∧ W.cell? ⟨w.heap.size, 1, none⟩ = some (.string (tx s))) (go_keep) (first | (go_at_call 50; refine (hrules_any _).mono ?_; rintro e w1 ⟨b, rfl, hb, B1⟩; have lk := LK.out w1 b hb; have k0 := (B1.cell (p := ⟨w.heap.size, 0, none⟩) (lt_of_cell c0)).trans c0; have k1 := (B1.cell (p := ⟨w.heap.size, 1, none⟩) (lt_of_cell c1)).trans c1))
  have K1 := hide ((KX.out.next ((Below.refl _ _).drew)).next B1)
  clear B1 BX hb KX
  go_wp2
  go_ret
  exact ⟨by rw [hF.out]; rfl, K1.out⟩

end Go.Proofs.YtfoacocnkdkdeaaGreatDoor
