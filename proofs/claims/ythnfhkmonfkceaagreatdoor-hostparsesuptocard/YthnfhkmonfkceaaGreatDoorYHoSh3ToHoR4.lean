/-
  host.nameText, nameBytes, told, parsed.
  host.Show.
  The document's host: mail addresses.
-/
import Derived.Test.YthnfhkmonfkceaaGreatDoorYHoSh2
import Derived.Test.YthnfhkmonfkceaaGreatDoorYNmTx2ToNmRTx
import Derived.Test.YthnfhkmonfkceaaGreatDoorYHoR3ToHoSm
namespace Go.Proofs.YthnfhkmonfkceaaGreatDoor
open Go.RowKit Go.IntWalk Go.Shelf

set_option maxRecDepth 100000 in
set_option maxHeartbeats 1000000 in
theorem nameText_any (b : List UInt8) (hb : b.length ≤ 1048576) (m : Int) (w : World) (hw : Hw w m) :
    Calls Tryz.prog 35 #[.string (tx b)] w fun e w' => e = .returned (.string (txT (ansN (nums b)))) ∧ Below w.heap.size w w' := by
  obtain ⟨cap, w1, hcv, s1, B1⟩ := conv_any (tx b) (by rw [tx_size]; exact hb) w
  have d1 := hide (callsIn_wide.1 (decodeN_in _ _ _ _ w1 s1 (by rw [tx_size]; exact hb)))
  rw [tx_list] at d1
  have ht := hide (fun (W : World) (ao : Option Addr) (n c : Nat) (hT : TabN W) (h : Ats W ao n c (ansN (nums b))) => textN_any ao n c (ansN (nums b)) W hT h ansN_small)
  have hz := hide (ansN_small (xs := nums b))
  have K1 := hide ((hw.below B1).2.1)
  have HB1 := hide B1
  clear hw B1 s1
  generalize txT (ansN (nums b)) = T at *
  generalize ansN (nums b) = A at *
  generalize encNE A = E9 at *
  generalize ansE (nums b) = E8 at *
  go_enter Tryz.func35, Tryz.ntmps35
  go_wp2_with fail
  refine d1.out.mono ?_
  rintro e w2 ⟨a2, m2, c2, rfl, o2, B2⟩
  have d2 := hide (ht.out w2 a2 m2 c2 (K1.out.below B2) (o2.ats hz.out))
  have HB2 := hide (HB1.out.trans (B2.mono HB1.out.size))
  clear d1 o2 B2 HB1 K1 ht
  go_wp2_with fail
  refine d2.out.mono ?_
  rintro e w3 ⟨rfl, B3⟩
  have HB3 := hide (HB2.out.trans (B3.mono HB2.out.size))
  clear d2 B3 HB2
  go_wp2
  go_ret
  exact ⟨rfl, HB3.out⟩

set_option maxRecDepth 100000 in
set_option maxHeartbeats 1000000 in
theorem nameBytes_any (r : List UInt8) (hr : r.length ≤ 1048576) (m : Int) (w : World) (hw : Hw w m) :
    Calls Tryz.prog 55 #[.string (tx r)] w fun e w' => e = .returned (.string (tx (nmB r))) ∧ Below w.heap.size w w' := by
  have d1 := hide (callsIn_wide.1 (parseN_in (tx r) (by rw [tx_size]; exact hr) m w hw.2.1 hw.1))
  have hP : Hid (strOfNums (encNC (pansN (tx r))) = tx (nmB r)) := rfl
  have hn := pans_name (tx r)
  have he := hide (fun (W : World) (ao : Option Addr) (n c : Nat) (h : Ats W ao n c (pansN (tx r))) => encodeN_any ao n c (pansN (tx r)) W h (name_size hn))
  have hz := hide (name_size hn)
  have hby := hide (encNC_byte (pansN (tx r)))
  clear hw hr hn
  generalize tx (nmB r) = Z at *
  generalize pansN (tx r) = A at *
  generalize encNC A = EC at *
  generalize encNE A = E9 at *
  generalize pansE (tx r) = E8 at *
  go_enter Tryz.func55, Tryz.ntmps55
  go_wp2_with fail
  refine d1.out.mono ?_
  rintro e w2 ⟨a2, m2, c2, rfl, o2, B2⟩
  have d2 := hide (he.out w2 a2 m2 c2 (o2.ats hz.out))
  have HB2 := hide B2
  clear d1 o2 B2 he
  go_wp2_with fail
  refine d2.out.mono ?_
  rintro e w3 ⟨a3, m3, c3, rfl, o3, B3⟩
  have HB3 := hide (HB2.out.trans (B3.mono HB2.out.size))
  have t3 := (OwnB.toSrc o3 hby.out).text
  rw [hP.out] at t3
  clear d2 o3 B3 HB2
  go_wp2
  go_ret
  exact ⟨rfl, HB3.out⟩

set_option maxRecDepth 100000 in
set_option maxHeartbeats 1000000 in
theorem toldH_any (k : Int) (b : List UInt8) (hb : b.length ≤ 1048576) (m : Int) (w : World) (hw : Hw w m) :
    Calls Tryz.prog 14 #[.agg #[.int .i64 k, .string (tx b)]] w fun e w' => e = .returned (.string (tx (toldK k b))) ∧ Below w.heap.size w w' := by
  by_cases h7 : k = 7
  · subst h7
    have BX := nbelowW w (.cells #[.int .i64 7, .string (tx b)] 23)
    have c0 : (w.alloc (.cells #[.int .i64 7, .string (tx b)] 23)).cell? ⟨w.heap.size, 0, none⟩ = some (.int .i64 7) := by simp
    have c1 : (w.alloc (.cells #[.int .i64 7, .string (tx b)] 23)).cell? ⟨w.heap.size, 1, none⟩ = some (.string (tx b)) := by simp
    have KX := hide (hw.below BX)
    have d1 := hide (fun W => inDigits_any b hb W)
    have hL : Hid (hexS b = toldK 7 b) := rfl
    generalize toldK 7 b = Z at *
    clear hw
    go_enter Tryz.func14, Tryz.ntmps14
    go_wp2_with fail
    refine (d1.out _).mono ?_
    rintro e w2 ⟨rfl, B2⟩
    go_wp2
    go_ret
    exact ⟨by rw [hL.out]; rfl, BX.trans (B2.mono BX.size)⟩
  have q7 : (k == 7) = false := by simpa using h7
  by_cases h4 : k = 4
  · subst h4
    have BX := nbelowW w (.cells #[.int .i64 4, .string (tx b)] 23)
    have c0 : (w.alloc (.cells #[.int .i64 4, .string (tx b)] 23)).cell? ⟨w.heap.size, 0, none⟩ = some (.int .i64 4) := by simp
    have c1 : (w.alloc (.cells #[.int .i64 4, .string (tx b)] 23)).cell? ⟨w.heap.size, 1, none⟩ = some (.string (tx b)) := by simp
    have KX := hide (hw.below BX)
    have d1 := hide (fun W (h : Hw W m) => nameText_any b hb m W h)
    have hL : Hid (txT (ansN (nums b)) = tx (toldK 4 b)) := rfl
    rw [hL.out] at d1
    generalize toldK 4 b = Z at *
    clear hw
    go_enter Tryz.func14, Tryz.ntmps14
    go_wp2_with fail
    refine (d1.out _ KX.out).mono ?_
    rintro e w2 ⟨rfl, B2⟩
    go_wp2
    go_ret
    exact ⟨rfl, BX.trans (B2.mono BX.size)⟩
  have q4 : (k == 4) = false := by simpa using h4
  have hL : Hid (toldK k b = b) := by unfold Hid toldK; rw [if_neg h7, if_neg h4]
  have BX := nbelowW w (.cells #[.int .i64 k, .string (tx b)] 23)
  have c0 : (w.alloc (.cells #[.int .i64 k, .string (tx b)] 23)).cell? ⟨w.heap.size, 0, none⟩ = some (.int .i64 k) := by simp
  have c1 : (w.alloc (.cells #[.int .i64 k, .string (tx b)] 23)).cell? ⟨w.heap.size, 1, none⟩ = some (.string (tx b)) := by simp
  have KX := hide (hw.below BX)
  clear hw h7 h4
  go_enter Tryz.func14, Tryz.ntmps14
  go_wp2
  go_ret
  exact ⟨by rw [hL.out]; rfl, BX⟩

theorem afterG {W : World} {g : Nat} {u0 u1 : Value} (hg : W.heap[g]? = some (.cells #[u0, u1] 23)) (x y : Value) :
    ((W.setCell ⟨g, 0, none⟩ x).setCell ⟨g, 1, none⟩ y).heap[g]? = some (.cells #[x, y] 23) := by
  have h1 := heap_setCell_same W g 0 _ _ x hg
  have h2 := heap_setCell_same _ g 1 _ _ y h1
  rw [h2]
  rfl
theorem two_cellsG {W : World} {g : Nat} {x y : Value} (h : W.heap[g]? = some (.cells #[x, y] 23)) : W.cell? ⟨g, 0, none⟩ = some x ∧ W.cell? ⟨g, 1, none⟩ = some y := by
  refine ⟨?_, ?_⟩ <;> simp [World.cell?, h]
set_option maxRecDepth 100000 in
set_option maxHeartbeats 1000000 in
theorem parsedH_any (k : Int) (r : List UInt8) (hr : r.length ≤ 1048576) (m : Int) (w : World) (hw : Hw w m) :
    Calls Tryz.prog 28 #[.int .i64 k, .string (tx r)] w fun e w' => e = .returned (.agg #[.int .i64 k, .string (tx (behK k r))]) ∧ Below w.heap.size w w' := by
  have b0 := nbelowW w (.cells #[.int .i64 0, .string ⟨#[]⟩] 23)
  have hr0 : (w.alloc (.cells #[.int .i64 0, .string ⟨#[]⟩] 23)).heap[w.heap.size]? = some (.cells #[.int .i64 0, .string ⟨#[]⟩] 23) := heap_alloc_new _ _
  have hcl : Hid (∀ W, Calls Tryz.prog 53 #[.string (tx r)] W fun e w' => e = .returned (.string (tx r)) ∧ Below W.heap.size W w') := fun W => cloneH_any (tx r) (by rw [tx_size]; omega) W
  have hod := hide (fun W => ofDigits_any r hr W)
  have hnb := hide (fun W (h : Hw W m) => nameBytes_any r hr m W h)
  have HW := hide (hw.below b0)
  have HR := hide hr0
  have HB := hide b0
  have hK7 : Hid (behK 7 r = unhH r) := rfl
  have hK4 : Hid (behK 4 r = nmB r) := rfl
  have hKe : Hid (k ≠ 7 → k ≠ 4 → behK k r = r) := fun h7 h4 => by unfold behK; rw [if_neg h7, if_neg h4]
  clear hw hr0 b0 hr
  by_cases h7 : k = 7
  · subst h7
    rw [← hK7.out] at hod
    clear hK7 hK4 hKe hnb
    generalize behK 7 r = Z at *
    go_enter Tryz.func28, Tryz.ntmps28
    go_wp2_with fail
    refine (hcl.out _).mono ?_
    rintro e w1 ⟨rfl, B1⟩
    have HB1 := hide (HB.out.trans (B1.mono HB.out.size))
    have HW1 := hide (HW.out.below B1)
    have HR1 := hide ((B1.block _ (Array.getElem?_eq_some_iff.1 HR.out).1).trans HR.out)
    clear B1 HB HW HR hcl
    go_wp2_with fail
    refine (hod.out w1).mono ?_
    rintro e w2 ⟨rfl, B2⟩
    have hr3 := (B2.block _ (Array.getElem?_eq_some_iff.1 HR1.out).1).trans HR1.out
    have HB3 := hide (HB1.out.trans (B2.mono HB1.out.size))
    have z0 : w2.cell? ⟨w.heap.size, 0, none⟩ = some (.int .i64 0) := by simp [World.cell?, hr3]
    have z1 : w2.cell? ⟨w.heap.size, 1, none⟩ = some (.string ⟨#[]⟩) := by simp [World.cell?, hr3]
    have f0 : w2.frozen? ⟨w.heap.size, 0, none⟩ = false := by simp [World.frozen?, hr3]
    have f1 : w2.frozen? ⟨w.heap.size, 1, none⟩ = false := by simp [World.frozen?, hr3]
    have hr5 := hide hr3
    clear B2 HR1 HB1 hr3 HW1
    go_wp2
    have hz3 := two_cellsG (afterG (W := w2) hr5.out (.int .i64 7) (.string (tx Z)))
    refine bodyPost_ret (v := .agg #[.int .i64 7, .string (tx Z)]) (by simp [results, Tryz.results28, go_sem, hz3.1, hz3.2]) rfl ⟨rfl, ?_⟩
    exact (HB3.out.setCell (Nat.le_refl _) _).setCell (Nat.le_refl _) _
  · by_cases h4 : k = 4
    · subst h4
      rw [← hK4.out] at hnb
      clear hK7 hK4 hKe hod h7
      generalize behK 4 r = Z at *
      go_enter Tryz.func28, Tryz.ntmps28
      go_wp2_with fail
      refine (hcl.out _).mono ?_
      rintro e w1 ⟨rfl, B1⟩
      have HB1 := hide (HB.out.trans (B1.mono HB.out.size))
      have HW1 := hide (HW.out.below B1)
      have HR1 := hide ((B1.block _ (Array.getElem?_eq_some_iff.1 HR.out).1).trans HR.out)
      clear B1 HB HW HR hcl
      go_wp2_with fail
      refine (hnb.out w1 HW1.out).mono ?_
      rintro e w2 ⟨rfl, B2⟩
      have hr3 := (B2.block _ (Array.getElem?_eq_some_iff.1 HR1.out).1).trans HR1.out
      have HB3 := hide (HB1.out.trans (B2.mono HB1.out.size))
      have z0 : w2.cell? ⟨w.heap.size, 0, none⟩ = some (.int .i64 0) := by simp [World.cell?, hr3]
      have z1 : w2.cell? ⟨w.heap.size, 1, none⟩ = some (.string ⟨#[]⟩) := by simp [World.cell?, hr3]
      have f0 : w2.frozen? ⟨w.heap.size, 0, none⟩ = false := by simp [World.frozen?, hr3]
      have f1 : w2.frozen? ⟨w.heap.size, 1, none⟩ = false := by simp [World.frozen?, hr3]
      have hr5 := hide hr3
      clear B2 HR1 HB1 hr3 HW1
      go_wp2
      have hz3 := two_cellsG (afterG (W := w2) hr5.out (.int .i64 4) (.string (tx Z)))
      refine bodyPost_ret (v := .agg #[.int .i64 4, .string (tx Z)]) (by simp [results, Tryz.results28, go_sem, hz3.1, hz3.2]) rfl ⟨rfl, ?_⟩
      exact (HB3.out.setCell (Nat.le_refl _) _).setCell (Nat.le_refl _) _
    · have q7 : (k == 7) = false := by simpa using h7
      have q4 : (k == 4) = false := by simpa using h4
      have hE := hKe.out h7 h4
      rw [hE]
      clear hK7 hK4 hKe hod hnb h7 h4 hE
      generalize tx r = Z at *
      go_enter Tryz.func28, Tryz.ntmps28
      go_wp2_with fail
      refine (hcl.out _).mono ?_
      rintro e w1 ⟨rfl, B1⟩
      have HB1 := hide (HB.out.trans (B1.mono HB.out.size))
      have HW1 := hide (HW.out.below B1)
      have HR1 := hide ((B1.block _ (Array.getElem?_eq_some_iff.1 HR.out).1).trans HR.out)
      clear B1 HB HW HR hcl
      obtain ⟨w2, hw2⟩ : ∃ w2, w2 = w1 := ⟨_, rfl⟩
      have B2 : Below w1.heap.size w1 w2 := by rw [hw2]; exact Below.refl _ _
      rw [← hw2]
      clear hw2
      have hr3 := (B2.block _ (Array.getElem?_eq_some_iff.1 HR1.out).1).trans HR1.out
      have HB3 := hide (HB1.out.trans (B2.mono HB1.out.size))
      have z0 : w2.cell? ⟨w.heap.size, 0, none⟩ = some (.int .i64 0) := by simp [World.cell?, hr3]
      have z1 : w2.cell? ⟨w.heap.size, 1, none⟩ = some (.string ⟨#[]⟩) := by simp [World.cell?, hr3]
      have f0 : w2.frozen? ⟨w.heap.size, 0, none⟩ = false := by simp [World.frozen?, hr3]
      have f1 : w2.frozen? ⟨w.heap.size, 1, none⟩ = false := by simp [World.frozen?, hr3]
      have hr5 := hide hr3
      clear B2 HR1 HB1 hr3 HW1
      go_wp2
      have hz3 := two_cellsG (afterG (W := w2) hr5.out (.int .i64 k) (.string (Z)))
      refine bodyPost_ret (v := .agg #[.int .i64 k, .string (Z)]) (by simp [results, Tryz.results28, go_sem, hz3.1, hz3.2]) rfl ⟨rfl, ?_⟩
      exact (HB3.out.setCell (Nat.le_refl _) _).setCell (Nat.le_refl _) _

end Go.Proofs.YthnfhkmonfkceaaGreatDoor

namespace Go.Proofs.YthnfhkmonfkceaaGreatDoor
open Go.RowKit Go.IntWalk Go.Shelf

theorem kind_nat {k : Int} {b : List UInt8} (h : mayG k b = true) : ∃ n : Nat, k = (n : Int) ∧ n < 8 := by
  rcases (mayG_kinds h).1 with rfl | rfl | rfl | rfl
  · exact ⟨1, rfl, by omega⟩
  · exact ⟨2, rfl, by omega⟩
  · exact ⟨4, rfl, by omega⟩
  · exact ⟨7, rfl, by omega⟩
theorem word_len (k : Int) : (wordK k).length ≤ 5 := by
  unfold wordK
  repeat' split
  all_goals decide
theorem toldK_len {k : Int} {b : List UInt8} (h : mayG k b = true) (hb : b.length ≤ 1048576) : (toldK k b).length ≤ 1048576 := by
  obtain ⟨_, h4, h7⟩ := mayG_kinds h
  unfold toldK
  by_cases e7 : k = 7
  · rw [if_pos e7, hexS_len]
    have h := h7 e7
    unfold ipL at h
    rw [Bool.or_eq_true, decide_eq_true_eq, decide_eq_true_eq] at h
    omega
  · rw [if_neg e7]
    by_cases e4 : k = 4
    · rw [if_pos e4, sizeH_len]
      exact txT_short (ans_ok (of_decide_eq_true (h4 e4))).1
    · rw [if_neg e4]
      exact hb

/-- What Show reads. -/
def ShowAt (B k : Nat) (b L : ByteArray) (W : World) : Prop :=
  W.cell? ⟨B, 0, none⟩ = some (.int .i64 (k : Int)) ∧ W.cell? ⟨B, 1, none⟩ = some (.string b) ∧ W.cell? ⟨0, k, none⟩ = some (.string L)
theorem ShowAt.below {B k : Nat} {b L : ByteArray} {A C : World} (h : ShowAt B k b L A) (hb : Below A.heap.size A C) : ShowAt B k b L C := by
  obtain ⟨r0, r1, r2⟩ := h
  exact ⟨(hb.cell (lt_of_cell r0)).trans r0, (hb.cell (lt_of_cell r1)).trans r1, (hb.cell (lt_of_cell r2)).trans r2⟩

set_option maxRecDepth 100000 in
set_option maxHeartbeats 2000000 in
theorem showH_any (k : Int) (hk : (Lit.int .i64 k).wf = true) (b : List UInt8) (hb : b.length ≤ 1048576) (m : Int) (w : World) (hw : Hw w m) :
    Calls Tryz.prog 6 #[.agg #[.int .i64 k, .string (tx b)]] w fun e w' => e = .returned (.tuple #[.string (tx (showS k b)), .int .i64 (showE k b)]) ∧ Below w.heap.size w w' := by
  have d1 : Hid (∀ W, Hw W m → Calls Tryz.prog 8 #[.agg #[.int .i64 k, .string (tx b)]] W fun e w' => e = .returned (.bool (mayG k b)) ∧ Below W.heap.size W w') := fun W h => (mayG_kp W k hk b hb m W (Kp.refl h.1)).mono fun _ _ ⟨h1, h2, _⟩ => ⟨h1, h2⟩
  have d2 : Hid (∀ W, Hw W m → Calls Tryz.prog 14 #[.agg #[.int .i64 k, .string (tx b)]] W fun e w' => e = .returned (.string (tx (toldK k b))) ∧ Below W.heap.size W w') := fun W h => toldH_any k b hb m W h
  have BX := nbelowW w (.cells #[.int .i64 k, .string (tx b)] 23)
  have c0 : (w.alloc (.cells #[.int .i64 k, .string (tx b)] 23)).cell? ⟨w.heap.size, 0, none⟩ = some (.int .i64 k) := by simp
  have c1 : (w.alloc (.cells #[.int .i64 k, .string (tx b)] 23)).cell? ⟨w.heap.size, 1, none⟩ = some (.string (tx b)) := by simp
  have KX := hide (hw.below BX)
  clear hw
  cases hm : mayG k b with
  | false =>
    have e1 : Hid (showS k b = []) := by unfold Hid showS; rw [hm]; rfl
    have e2 : Hid (showE k b = 130) := by unfold Hid showE; rw [hm]; rfl
    rw [hm] at d1
    clear hm d2
    go_enter Tryz.func6, Tryz.ntmps6
    go_wp2_with fail
    refine (d1.out _ KX.out).mono ?_
    rintro e w1 ⟨rfl, B1⟩
    go_wp2
    refine bodyPost_ret (v := .tuple #[.string (tx []), .int .i64 130]) (by simp [results, Tryz.results6, go_sem]; rfl) rfl ⟨by rw [e1.out, e2.out], BX.trans (B1.mono BX.size)⟩
  | true =>
    have e1 : Hid (showS k b = showL k b) := by unfold Hid showS; rw [hm]; rfl
    have e2 : Hid (showE k b = 0) := by unfold Hid showE; rw [hm]; rfl
    obtain ⟨n, hkn, hn8⟩ := kind_nat hm
    have hwl := word_len k
    have htl := toldK_len hm hb
    have hL : Hid (tx (wordK k) ++ (⟨#[58]⟩ : ByteArray) ++ tx (toldK k b) = tx (showL k b)) := by
      have h1 : tx (wordK k) ++ (⟨#[58]⟩ : ByteArray) = tx (wordK k ++ [58]) := tx_catW _ [58]
      unfold Hid showL
      rw [h1, tx_catW]
      simp
    rw [hm] at d1
    subst hkn
    have z1 : (tx (wordK (n : Int))).size = (wordK (n : Int)).length := tx_size _
    have z2 : (tx (toldK (n : Int) b)).size = (toldK (n : Int) b).length := tx_size _
    have z0 : (⟨#[58]⟩ : ByteArray).size = 1 := rfl
    have gW := fun (W : World) (h : Hw W m) => h.2.2 n hn8
    generalize tx (wordK (n : Int)) = L at *
    generalize tx (toldK (n : Int) b) = Z at *
    have b1 : ¬ 9223372036854775807 < L.size + 1 := by omega
    have b2 : ¬ 9223372036854775807 < L.size + 1 + Z.size := by omega
    have b3 : ¬ 9223372036854775807 < (L ++ (⟨#[58]⟩ : ByteArray)).size + Z.size := by rw [bs_app_len]; exact b2
    have nI : (n : Int) < 8 := by omega
    have GW := hide gW
    clear hm hwl htl z0 z1 z2 gW hk
    go_enter Tryz.func6, Tryz.ntmps6
    go_wp2_with fail
    refine (d1.out _ KX.out).mono ?_
    rintro e w1 ⟨rfl, B1⟩
    have KX1 := hide (KX.out.below B1)
    have hSt : ShowAt w.heap.size n (tx b) L w1 := ⟨(B1.cell (lt_of_cell c0)).trans c0, (B1.cell (lt_of_cell c1)).trans c1, GW.out _ KX1.out⟩
    have HB := hide (BX.trans (B1.mono BX.size))
    clear d1 B1 BX c0 c1 KX
    go_wp2_with fail
    refine wp_region_held_drew (S := ShowAt w.heap.size n (tx b) L) (by kernel_rfl) (hSt.below (Below.refl _ _).drew) (fun hS => ?_)
    replace HB := hide (HB.out.drew)
    replace KX1 := hide (KX1.out.below (Below.refl _ _).drew)
    clear hSt
    generalize w1.drew = X0 at *
    refine wpAnyH_take (i := 0) (v := ?_) rfl (by kernel_rfl) (by kernel_rfl) (by kernel_rfl) (fun _ _ _ h => h) (Or.inl ⟨by rfl, ?_⟩) (by assumption) ?_
    rotate_left
    · intro wq hSq
      obtain ⟨r0, r1, r2⟩ := hSq
      go_simp
      try with_reducible rfl
    simp only [List.getElem_toArray, List.getElem_cons_zero, Act.put, List.setIfInBounds_toArray, List.set_cons_zero, List.set_cons_succ]
    refine wpAnyH_take (i := 1) (v := ?_) rfl (by kernel_rfl) (by kernel_rfl) (by kernel_rfl) (fun _ _ _ h => h) (Or.inl ⟨by rfl, ?_⟩) (by assumption) ?_
    rotate_left
    · intro wq hSq
      obtain ⟨r0, r1, r2⟩ := hSq
      go_simp
      try with_reducible rfl
    simp only [List.getElem_toArray, List.getElem_cons_succ, List.getElem_cons_zero, Act.put, List.setIfInBounds_toArray, List.set_cons_zero, List.set_cons_succ]
    refine wpAnyH_take (i := 2) (v := ?_) rfl (by kernel_rfl) (by kernel_rfl) (by kernel_rfl) (fun _ _ _ h => h) (Or.inl ⟨by rfl, ?_⟩) (by assumption) ?_
    rotate_left
    · intro wq hSq
      obtain ⟨r0, r1, r2⟩ := hSq
      go_simp
      try with_reducible rfl
    simp only [List.getElem_toArray, List.getElem_cons_succ, List.getElem_cons_zero, Act.put, List.setIfInBounds_toArray, List.set_cons_zero, List.set_cons_succ]
    refine wpAnyH_take (i := 3) (v := ?_) rfl (by kernel_rfl) (by kernel_rfl) (by kernel_rfl) (fun _ _ _ h => h) (Or.inl ⟨by rfl, ?_⟩) (by assumption) ?_
    rotate_left
    · intro wq hSq
      obtain ⟨r0, r1, r2⟩ := hSq
      go_simp
      try with_reducible rfl
    simp only [List.getElem_toArray, List.getElem_cons_succ, List.getElem_cons_zero, Act.put, List.setIfInBounds_toArray, List.set_cons_zero, List.set_cons_succ]
    refine wpAnyH_take (i := 4) (v := ?_) rfl (by kernel_rfl) (by kernel_rfl) (by kernel_rfl) (fun _ _ _ h => h) (Or.inl ⟨by rfl, ?_⟩) (by assumption) ?_
    rotate_left
    · intro wq hSq
      obtain ⟨r0, r1, r2⟩ := hSq
      go_simp
      try with_reducible rfl
    simp only [List.getElem_toArray, List.getElem_cons_succ, List.getElem_cons_zero, Act.put, List.setIfInBounds_toArray, List.set_cons_zero, List.set_cons_succ]
    refine wpAnyH_take (i := 5) (v := ?_) rfl (by kernel_rfl) (by kernel_rfl) (by kernel_rfl) (fun _ _ _ h => h) (Or.inl ⟨by rfl, ?_⟩) (by assumption) ?_
    rotate_left
    · intro wq hSq
      obtain ⟨r0, r1, r2⟩ := hSq
      go_simp
      try with_reducible rfl
    simp only [List.getElem_toArray, List.getElem_cons_succ, List.getElem_cons_zero, Act.put, List.setIfInBounds_toArray, List.set_cons_zero, List.set_cons_succ]
    refine wpAnyH_ready (rs := [6]) (by kernel_rfl) (by simp) ?_
    refine AllReadyH.cons rfl (fun Kq hKq => ?_) AllReadyH.nil
    go_simp
    refine (d2.out X0 KX1.out).mono ?_
    rintro e w2 ⟨rfl, B2⟩
    refine hKq.out _ _ (hS.below B2) (fun hHeld => ?_)
    clear hKq Kq
    refine wpAnyH_take (i := 7) (v := ?_) rfl (by kernel_rfl) (by kernel_rfl) (by kernel_rfl) (fun _ _ _ h => h) (Or.inl ⟨by rfl, ?_⟩) (by assumption) ?_
    rotate_left
    · intro wq hSq
      obtain ⟨r0, r1, r2⟩ := hSq
      go_simp
      try with_reducible rfl
    simp only [List.getElem_toArray, List.getElem_cons_succ, List.getElem_cons_zero, Act.put, List.setIfInBounds_toArray, List.set_cons_zero, List.set_cons_succ]
    refine wpAnyH_take (i := 8) (v := ?_) rfl (by kernel_rfl) (by kernel_rfl) (by kernel_rfl) (fun _ _ _ h => h) (Or.inl ⟨by rfl, ?_⟩) (by assumption) ?_
    rotate_left
    · intro wq hSq
      obtain ⟨r0, r1, r2⟩ := hSq
      go_simp
      try with_reducible rfl
    simp only [List.getElem_toArray, List.getElem_cons_succ, List.getElem_cons_zero, Act.put, List.setIfInBounds_toArray, List.set_cons_zero, List.set_cons_succ]
    refine wpAnyH_take (i := 9) (v := ?_) rfl (by kernel_rfl) (by kernel_rfl) (by kernel_rfl) (fun _ _ _ h => h) (Or.inl ⟨by rfl, ?_⟩) (by assumption) ?_
    rotate_left
    · intro wq hSq
      obtain ⟨r0, r1, r2⟩ := hSq
      go_simp
      try with_reducible rfl
    simp only [List.getElem_toArray, List.getElem_cons_succ, List.getElem_cons_zero, Act.put, List.setIfInBounds_toArray, List.set_cons_zero, List.set_cons_succ]
    refine wpAnyH_done (by kernel_rfl) ?_ _
    have HB2 := hide (HB.out.trans (B2.mono HB.out.size))
    clear B2 hHeld hS HB KX1 d2 GW
    go_wp2
    refine bodyPost_ret (v := .tuple #[.string (L ++ (⟨#[58]⟩ : ByteArray) ++ Z), .int .i64 0]) (by simp [results, Tryz.results6, go_sem]) rfl ⟨by rw [e1.out, e2.out, ← hL.out], HB2.out⟩

end Go.Proofs.YthnfhkmonfkceaaGreatDoor

namespace Go.Proofs.YthnfhkmonfkceaaGreatDoor
open Go.RowKit Go.IntWalk

theorem cutD_at (d : UInt8) : ∀ (l : List UInt8) (k : Nat), (∀ (i : Nat) (h : i < l.length), i < k → l[i]'h ≠ d) → (h : k < l.length) → l[k]'h = d → (cutD d l).1 = l.take k ∧ (cutD d l).2.1 = l.drop (k + 1)
  | c :: r, 0, _, h, e => by
    have e2 : c = d := e
    rw [cutD, if_pos e2]
    simp
  | c :: r, k + 1, hn, h, e => by
    have hc : c ≠ d := hn 0 (by simp) (by omega)
    have ih := cutD_at d r k (fun i hi hik => hn (i + 1) (by simp; omega) (by omega)) (by simpa using h) (by simpa using e)
    rw [cutD, if_neg hc]
    simp [ih.1, ih.2]
theorem cutD_none (d : UInt8) : ∀ (l : List UInt8), (∀ (i : Nat) (h : i < l.length), l[i]'h ≠ d) → (cutD d l).2.1 = []
  | [], _ => rfl
  | c :: r, hn => by
    have hc : c ≠ d := hn 0 (by simp)
    rw [cutD, if_neg hc]
    exact cutD_none d r (fun i hi => hn (i + 1) (by simp; omega))

theorem locS_at (p : Bool) (l : List UInt8) (k : Nat) (h : k < l.length) : locS p (l.drop k) = if l[k]'h = 46 then (!p && locS true (l.drop (k + 1))) else (locN (l[k]'h).toNat && locS false (l.drop (k + 1))) := by
  rw [List.drop_eq_getElem_cons h, locS]

theorem locN_split (n : Nat) : locN n = ((ltN n || digN n) || (decide (n = 95) || (decide (n = 43) || decide (n = 45)))) := by unfold locN; rw [plN_split]
theorem locS_nodot (p q : Bool) : ∀ l : List UInt8, l ≠ [] → (∀ h : 0 < l.length, l[0]'h ≠ 46) → locS p l = locS q l
  | [], h, _ => absurd rfl h
  | c :: r, _, h => by
    have hc : c ≠ 46 := h (by simp)
    rw [locS, locS, if_neg hc, if_neg hc]

/-- Is a local part right: no dot ahead, none behind, no two in a row. -/
theorem locS_last : ∀ (l : List UInt8) (p : Bool), locS p l = true → (h : 0 < l.length) → l[l.length - 1]'(by omega) ≠ 46
  | [c], p, hl, _ => by
    intro e
    have e2 : c = 46 := e
    rw [locS, if_pos e2] at hl
    simp [locS] at hl
  | c :: d :: r, p, hl, _ => by
    have h2 : ∃ q, locS q (d :: r) = true := by
      rw [locS] at hl
      split at hl
      · exact ⟨_, (Bool.and_eq_true _ _ ▸ hl).2⟩
      · exact ⟨_, (Bool.and_eq_true _ _ ▸ hl).2⟩
    obtain ⟨q, hq⟩ := h2
    have ih := locS_last (d :: r) q hq (by simp)
    simpa using ih

end Go.Proofs.YthnfhkmonfkceaaGreatDoor
