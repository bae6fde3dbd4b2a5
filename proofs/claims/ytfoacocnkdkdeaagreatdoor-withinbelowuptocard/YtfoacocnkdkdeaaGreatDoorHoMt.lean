/-
  host.Match: does a pattern stand for a host?
-/
import Derived.Test.YtfoacocnkdkdeaaGreatDoorHoE
import Derived.Test.YtfoacocnkdkdeaaGreatDoorHoMm
namespace Go.Proofs.YtfoacocnkdkdeaaGreatDoor
open Go.RowKit Go.Shelf Go.IntWalk

set_option maxRecDepth 100000 in
set_option maxHeartbeats 1000000 in
theorem behind_any (s : List UInt8) (hs : s.length ≤ 1048576) (m : Int) (w : World) (hm : ML w m) :
    Calls Tryz.prog 52 #[.string (tx s)] w fun e w' => e = .returned (.string (tx (behL s))) ∧ Below w.heap.size w w' := by
  have hC := hide (cut_any s 46 hs m w hm)
  have hb : Hid ((cutD 46 s).2.1 = behL s) := rfl
  generalize (cutD 46 s).1 = a at hC
  generalize (cutD 46 s).2.1 = b at hC hb
  generalize (cutD 46 s).2.2 = c at hC
  go_enter Tryz.func52, Tryz.ntmps52
  go_wp2_with (go_at_call 83; refine (hC.out).mono ?_; rintro e w1 ⟨rfl, B1⟩)
  go_ret
  exact ⟨by rw [← hb.out]; rfl, B1⟩

theorem fold_any (a b : List UInt8) (ha : a.length ≤ 1048576) (xa : ∀ x ∈ a, x.toNat < 128) (xb : ∀ x ∈ b, x.toNat < 128) (w : World) :
    Calls Tryz.prog 51 #[.string (tx a), .string (tx b)] w fun e w' => e = .returned (.bool (Lib.equalFold a b)) ∧ w' = w :=
  Tryz.strings_EqualFold (tx a) (tx b) w (by rw [tx_size]; omega) (fun _ x hx => xa x (List.mem_of_getElem? hx)) (fun _ x hx => xb x (List.mem_of_getElem? hx))

set_option maxRecDepth 100000 in
set_option maxHeartbeats 2000000 in
theorem match_any (p s : List UInt8) (hp : p.length ≤ 1048576) (hs : s.length ≤ 1048576) (m : Int) (w : World) (hm : ML w m) :
    Calls Tryz.prog 23 #[.string (tx p), .string (tx s)] w fun e w' => e = .returned (.bool (matchL p s)) ∧ Below w.heap.size w w' := by
  have hM : Hid (matchL p s = (dnsL s && (if dnsL p = true then Lib.equalFold p s else wildL p && Lib.equalFold (behL p) (behL s)))) := rfl
  have d1 := hide (fun W h => dns_any s hs m W h)
  have d2 := hide (fun W h => dns_any p hp m W h)
  have d3 := hide (fun W h => wild_any p hp m W h)
  have d4 := hide (fun W h => behind_any p hp m W h)
  have d5 := hide (fun W h => behind_any s hs m W h)
  have bl : (behL p).length ≤ 1048576 := Nat.le_trans (cutD_rest 46 p).1 hp
  have f1 : Hid (dnsL s = true → dnsL p = true → ∀ W, Calls Tryz.prog 51 #[.string (tx p), .string (tx s)] W fun e w' => e = .returned (.bool (Lib.equalFold p s)) ∧ w' = W) := fun h1 h2 W => fold_any p s hp (dns_ascii h2) (dns_ascii h1) W
  have f2 : Hid (dnsL s = true → wildL p = true → ∀ W, Calls Tryz.prog 51 #[.string (tx (behL p)), .string (tx (behL s))] W fun e w' => e = .returned (.bool (Lib.equalFold (behL p) (behL s))) ∧ w' = W) := fun h1 h2 W => by
    obtain ⟨r, rfl, hr, hb, _, _⟩ := wild_split h2
    exact fold_any _ _ bl (by rw [hb]; exact dns_ascii hr) (beh_ascii h1) W
  have HM := hide hm
  have hne : Hid (wildL p = true → tx p ≠ tx s → True) := fun _ _ => trivial
  clear hm bl hne
  generalize Lib.equalFold p s = x1 at *
  generalize Lib.equalFold (behL p) (behL s) = x2 at *
  generalize dnsL s = b1 at *
  generalize dnsL p = b2 at *
  generalize wildL p = b3 at *
  generalize matchL p s = R at *
  generalize behL p = pb at *
  generalize behL s = sb at *
  generalize tx s = S at *
  generalize tx p = Q at *
  generalize tx sb = SB at *
  generalize tx pb = PB at *
  cases b1 with
  | false =>
    have hR : Hid (R = false) := hM.out
    go_enter Tryz.func23, Tryz.ntmps23
    go_wp2_with (go_at_call 25; refine (d1.out _ HM.out).mono ?_; rintro e w1 ⟨rfl, B1⟩)
    go_ret
    exact ⟨by rw [hR.out]; rfl, B1⟩
  | true =>
    cases b2 with
    | true =>
      have hR : Hid (R = x1) := hM.out
      have F := hide (f1.out rfl rfl)
      go_enter Tryz.func23, Tryz.ntmps23
      go_wp2_with (first | (go_at_call 25; refine (d2.out _ hm1.out).mono ?_; rintro e w2 ⟨rfl, B2⟩) | (go_at_call 25; refine (d1.out _ HM.out).mono ?_; rintro e w1 ⟨rfl, B1⟩; have hm1 := hide (HM.out.below B1)) | (go_at_call 51; refine (F.out _).mono ?_; rintro e w3 ⟨rfl, h3⟩; subst h3))
      go_ret
      exact ⟨by rw [hR.out]; rfl, B1.trans (B2.mono B1.size)⟩
    | false =>
      cases b3 with
      | false =>
        have hR : Hid (R = false) := hM.out
        go_enter Tryz.func23, Tryz.ntmps23
        go_wp2_with (first | (go_at_call 25; refine (d2.out _ hm1.out).mono ?_; rintro e w2 ⟨rfl, B2⟩; have hm2 := hide (hm1.out.below B2)) | (go_at_call 25; refine (d1.out _ HM.out).mono ?_; rintro e w1 ⟨rfl, B1⟩; have hm1 := hide (HM.out.below B1)) | (go_at_call 21; refine (d3.out _ hm2.out).mono ?_; rintro e w3 ⟨rfl, B3⟩))
        go_ret
        exact ⟨by rw [hR.out]; rfl, (B1.trans (B2.mono B1.size)).trans (B3.mono (Nat.le_trans B1.size B2.size))⟩
      | true =>
        have hR : Hid (R = x2) := hM.out
        have F := hide (f2.out rfl rfl)
        go_enter Tryz.func23, Tryz.ntmps23
        go_wp2_with (first | (go_at_call 25; refine (d2.out _ hm1.out).mono ?_; rintro e w2 ⟨rfl, B2⟩; have hm2 := hide (hm1.out.below B2)) | (go_at_call 25; refine (d1.out _ HM.out).mono ?_; rintro e w1 ⟨rfl, B1⟩; have hm1 := hide (HM.out.below B1)) | (go_at_call 21; refine (d3.out _ hm2.out).mono ?_; rintro e w3 ⟨rfl, B3⟩; have hm3 := hide (hm2.out.below B3)) | (go_at_call 52; refine (d5.out _ hm4.out).mono ?_; rintro e w5 ⟨rfl, B5⟩) | (go_at_call 52; refine (d4.out _ hm3.out).mono ?_; rintro e w4 ⟨rfl, B4⟩; have hm4 := hide (hm3.out.below B4)) | (go_at_call 51; refine (F.out _).mono ?_; rintro e w6 ⟨rfl, h6⟩; subst h6))
        go_ret
        exact ⟨by rw [hR.out]; rfl, ((((B1.trans (B2.mono B1.size)).trans (B3.mono (Nat.le_trans B1.size B2.size))).trans (B4.mono (Nat.le_trans (Nat.le_trans B1.size B2.size) B3.size))).trans (B5.mono (Nat.le_trans (Nat.le_trans (Nat.le_trans B1.size B2.size) B3.size) B4.size)))⟩

end Go.Proofs.YtfoacocnkdkdeaaGreatDoor
