/-
  The statement HostParses: its walk.
  The statement HostBack: its walk.
  How a row's []byte argument is opened into what the walks are told of it.
  The table of labels of package name, out of a row's list.
  The tables that host's Show and Parse read, out of a row's list.
  How a row's argument of type Subtree or General is opened into what the walks are told of it.
-/
import Derived.Laws.StructEq
import Derived.Test.YthnfhkmonfkceaaGreatDoorYHoWToHoPa
import Derived.Test.YthnfhkmonfkceaaGreatDoorYHoRPa
import Derived.Test.YthnfhkmonfkceaaGreatDoorRows
import Derived.Test.YthnfhkmonfkceaaGreatDoorYBaseToBts
import Derived.ProofKit
import Derived.OpenShut
import Derived.ShutString
import Derived.ChangeOld
import Derived.Below
import Derived.SizedLaws
import Derived.Test.YthnfhkmonfkceaaGreatDoorYNmTx2ToNmRTx
import Derived.LaidMore
import Derived.LaidHandle
import Derived.Lib.LaidTab
import Derived.Test.YthnfhkmonfkceaaGreatDoorYHoSh1ToHoR2
import Derived.LaidSub
import Derived.Lib.SmallJoins
import Derived.Test.YthnfhkmonfkceaaGreatDoorYHoBToHoD
namespace Go.Proofs.YthnfhkmonfkceaaGreatDoor
open Go.RowKit Go.IntWalk Go.Shelf

def eqGt (x y : Value) : Sem Value := binOp .eql 23 x y
theorem eq_gen (x y : Value) : binOp .eql 23 x y = eqGt x y := rfl
set_option maxRecDepth 100000 in
theorem eqGt_same (t : Int) (s : ByteArray) (w : World) : (eqGt (.agg #[.int .i64 t, .string s]) (.agg #[.int .i64 t, .string s])).run Tryz.prog w = .ok (.bool true) w := by
  have e1 : (t == t) = true := by simp
  have e2 : (s.toList == s.toList) = true := by simp
  unfold eqGt
  rw [run_eql_struct]
  go_simp
attribute [local go_sem ↓] eq_gen

set_option maxRecDepth 100000 in
set_option maxHeartbeats 4000000 in
theorem hostParses_walk (s : List UInt8) (hs : s.length ≤ 1048576) (m : Int) (w : World) (hw : Hw w m) :
    Calls Tryz.prog 4 #[.string (tx s)] w fun e w' => e = .returned (.bool true) ∧ Below w.heap.size w w' := by
  have C1 := hide (fun W (h : Hw W m) => parseH_any s hs m W h)
  have C2 : Hid (∀ W, Hw W m → Calls Tryz.prog 12 #[.string (tx s)] W fun e w' => e = .returned (.tuple #[.agg #[.int .i64 (hparG s).1, .string (tx (hparG s).2)], .int .i64 (hparE s)]) ∧ Below W.heap.size W w') := fun W _ => refParse_any s hs W
  have C5 : Hid (∀ W, Hw W m → Calls Tryz.prog 10 #[] W fun e w' => e = .returned (.bool true) ∧ Below W.heap.size W w') := fun W h => works_any m W h.1
  have KX := hide hw
  have qe : (hparE s == hparE s) = true := by simp
  generalize tx (hparG s).2 = t at *
  generalize (hparG s).1 = k at *
  generalize hparE s = E at *
  clear hw hs
  generalize tx s = ss at *
  go_enter Tryz.func4, Tryz.ntmps4
  go_wp2_with fail
  refine (C1.out _ KX.out).mono ?_
  rintro e w1 ⟨rfl, B1⟩
  have BY := nbelowW w1 (.cells #[.int .i64 k, .string t] 23)
  have O1 : OneG w1.heap.size k t (w1.alloc (.cells #[.int .i64 k, .string t] 23)) := ⟨by simp, by simp⟩
  have KX1 := hide ((KX.out.below B1).below BY)
  have HB1 := hide (B1.trans (BY.mono B1.size))
  clear C1 KX B1 BY
  go_wp2_with fail
  refine (C2.out _ KX1.out).mono ?_
  rintro e w2 ⟨rfl, B2⟩
  have BZ := nbelowW w2 (.cells #[.int .i64 k, .string t] 23)
  have O2 : OneG w2.heap.size k t (w2.alloc (.cells #[.int .i64 k, .string t] 23)) := ⟨by simp, by simp⟩
  have KV := hide ((KX1.out.below B2).below BZ)
  have HB := hide ((HB1.out.trans (B2.mono HB1.out.size)).trans (BZ.mono (HB1.out.trans (B2.mono HB1.out.size)).size))
  obtain ⟨y0, y1⟩ := (O1.below B2).below BZ
  have hqe := fun W => eqGt_same k t W
  clear C2 KX1 HB1 B2 BZ O1 O2
  go_wp2_with fail
  refine (C5.out _ KV.out).mono ?_
  rintro e w3 ⟨rfl, B3⟩
  have HB3 := hide (HB.out.trans (B3.mono HB.out.size))
  clear B3 HB KV y0 y1
  go_wp2
  go_ret
  exact ⟨rfl, HB3.out⟩

end Go.Proofs.YthnfhkmonfkceaaGreatDoor

namespace Go.Proofs.YthnfhkmonfkceaaGreatDoor
open Go.RowKit Go.IntWalk Go.Shelf
attribute [local go_sem ↓] eq_gen

def neGt (x y : Value) : Sem Value := binOp .neq 23 x y
theorem ne_gen (x y : Value) : binOp .neq 23 x y = neGt x y := rfl
set_option maxRecDepth 100000 in
theorem neGt_same (t : Int) (s : ByteArray) (w : World) : (neGt (.agg #[.int .i64 t, .string s]) (.agg #[.int .i64 t, .string s])).run Tryz.prog w = .ok (.bool false) w := by
  have e1 : (t == t) = true := by simp
  have e2 : (s.toList == s.toList) = true := by simp
  unfold neGt
  rw [run_neq_struct]
  go_simp
attribute [local go_sem ↓] ne_gen

theorem cutD_sum (d : UInt8) : ∀ l : List UInt8, l.length ≤ (cutD d l).1.length + (cutD d l).2.1.length + 1
  | [] => by simp
  | c :: r => by
    have ih := cutD_sum d r
    rw [cutD]
    split
    · simp
    · simp only [List.length_cons]; omega
theorem dns_short {l : List UInt8} (h : dnsL l = true) : l.length ≤ 253 := by
  unfold dnsL at h
  rw [Bool.and_eq_true, decide_eq_true_eq] at h
  exact h.1
theorem wild_short {l : List UInt8} (h : wildL l = true) : l.length ≤ 253 := by
  match l, h with
  | a :: b :: r, h =>
    unfold wildL at h
    simp only [Bool.and_eq_true, decide_eq_true_eq] at h
    simp only [List.length_cons]
    omega
theorem mail_short {l : List UInt8} (h : mailL l = true) : l.length ≤ 318 := by
  unfold mailL locL at h
  simp only [Bool.and_eq_true, decide_eq_true_eq] at h
  have h1 := dns_short h.2
  have h2 := cutD_sum 64 l
  omega
theorem showL_len {k : Int} {b : List UInt8} (h : mayG k b = true) : (showL k b).length ≤ 1048576 := by
  have hw := word_len k
  have key : (toldK k b).length ≤ 1048000 := by
    obtain ⟨hk, h4, h7⟩ := mayG_kinds h
    have h0 := h
    unfold mayG hmay at h0
    rcases hk with rfl | rfl | rfl | rfl
    · have := mail_short (l := b) (by simpa using h0)
      show b.length ≤ _
      omega
    · have h0 : (dnsL b || wildL b) = true := by simpa using h0
      rw [Bool.or_eq_true] at h0
      show b.length ≤ _
      rcases h0 with h0 | h0
      · have := dns_short h0; omega
      · have := wild_short h0; omega
    · have hn := (ans_ok (of_decide_eq_true (h4 rfl))).1
      have := txU_len hn
      show (txT (ansN (nums b))).data.toList.length ≤ _
      rw [sizeH_len]
      unfold txT
      rw [if_pos hn]
      show (txU (ansN (nums b))).toArray.size ≤ _
      simp
      omega
    · have hi := h7 rfl
      unfold ipL at hi
      rw [Bool.or_eq_true, decide_eq_true_eq, decide_eq_true_eq] at hi
      show (hexS b).length ≤ _
      rw [hexS_len]
      omega
  unfold showL
  rw [List.length_append, List.length_cons]
  omega
theorem hpar_back {k : Int} {b : List UInt8} (h : mayG k b = true) : hparG (showL k b) = (k, b) ∧ hparE (showL k b) = 0 := by
  have hc := (cand_back h).1
  have ho : okC (showL k b) (candH (showL k b)) = true := by
    rw [hc]
    unfold okC
    rw [h]
    simp
  unfold hparG hparE
  rw [if_pos ho, if_pos ho, hc]
  exact ⟨rfl, rfl⟩
theorem hpar_cases (s : List UInt8) : (hparE s = 0 ∧ mayG (hparG s).1 (hparG s).2 = true ∧ showL (hparG s).1 (hparG s).2 = s) ∨ (hparE s = 130 ∧ hparG s = (0, [])) := by
  unfold hparG hparE
  by_cases ho : okC s (candH s) = true
  · left
    rw [if_pos ho, if_pos ho]
    unfold okC at ho
    rw [Bool.and_eq_true, decide_eq_true_eq] at ho
    exact ⟨rfl, ho.1, ho.2⟩
  · right
    rw [if_neg ho, if_neg ho]
    exact ⟨rfl, rfl⟩
theorem hpar_wf (s : List UInt8) : (Lit.int .i64 (hparG s).1).wf = true := by
  unfold hparG
  split
  · exact kindU_wf _
  · decide
theorem hpar_len {s : List UInt8} (hs : s.length ≤ 1048576) : (hparG s).2.length ≤ 1048576 := by
  unfold hparG
  split
  · exact candH_len hs
  · exact Nat.zero_le _

set_option maxRecDepth 100000 in
set_option maxHeartbeats 4000000 in
theorem hostBack_walk (k : Int) (b t : List UInt8) (hk : (Lit.int .i64 k).wf = true) (hb : b.length ≤ 1048576) (ht : t.length ≤ 1048576) (m : Int) (w : World) (hw : Hw w m) :
    Calls Tryz.prog 5 #[.agg #[.int .i64 k, .string (tx b)], .string (tx t)] w fun e w' => e = .returned (.bool true) ∧ Below w.heap.size w w' := by
  have C1 := hide (fun W (h : Hw W m) => showH_any k hk b hb m W h)
  have C3 : Hid (∀ W, Hw W m → Calls Tryz.prog 8 #[.agg #[.int .i64 k, .string (tx b)]] W fun e w' => e = .returned (.bool (mayG k b)) ∧ Below W.heap.size W w') := fun W h => (mayG_kp W k hk b hb m W (Kp.refl h.1)).mono fun _ _ ⟨h1, h2, _⟩ => ⟨h1, h2⟩
  have TH : Hid (∀ W, Hw W m → Calls Tryz.prog 13 #[] W fun e w' => e = .returned (.bool true) ∧ Below W.heap.size W w') := fun W h => there_any m W h.1
  have P2 := hide (fun W (h : Hw W m) => parseH_any t ht m W h)
  have S2 := hide (fun W (h : Hw W m) => showH_any (hparG t).1 (hpar_wf t) (hparG t).2 (hpar_len ht) m W h)
  have M2 : Hid (∀ W, Hw W m → Calls Tryz.prog 8 #[.agg #[.int .i64 (hparG t).1, .string (tx (hparG t).2)]] W fun e w' => e = .returned (.bool (mayG (hparG t).1 (hparG t).2)) ∧ Below W.heap.size W w') := fun W h => (mayG_kp W _ (hpar_wf t) _ (hpar_len ht) m W (Kp.refl h.1)).mono fun _ _ ⟨h1, h2, _⟩ => ⟨h1, h2⟩
  have HC := hide (hpar_cases t)
  have HS2 : Hid (mayG (hparG t).1 (hparG t).2 = true → showS (hparG t).1 (hparG t).2 = showL (hparG t).1 (hparG t).2 ∧ showE (hparG t).1 (hparG t).2 = 0) := fun h => by unfold showS showE; rw [h]; exact ⟨rfl, rfl⟩
  generalize hparG t = C at *
  obtain ⟨k2, b2⟩ := C
  generalize hparE t = E2 at *
  simp only [] at S2 M2 HC HS2
  have BX := nbelowW w (.cells #[.int .i64 k, .string (tx b)] 23)
  have x0 : (w.alloc (.cells #[.int .i64 k, .string (tx b)] 23)).cell? ⟨w.heap.size, 0, none⟩ = some (.int .i64 k) := by simp
  have x1 : (w.alloc (.cells #[.int .i64 k, .string (tx b)] 23)).cell? ⟨w.heap.size, 1, none⟩ = some (.string (tx b)) := by simp
  have KX := hide (hw.below BX)
  have HB0 := hide BX
  clear hw BX hk
  cases hm : mayG k b with
  | false =>
    have e1 : showS k b = [] := by unfold showS; rw [hm]; rfl
    have e2 : showE k b = 130 := by unfold showE; rw [hm]; rfl
    rw [e1, e2] at C1
    rw [hm] at C3
    have qz : (tx []).toList.isEmpty = true := by rw [ByteArray.toList_eq]; rfl
    obtain ⟨Z0, hZ0⟩ : ∃ Z, tx [] = Z := ⟨_, rfl⟩
    rw [hZ0] at qz C1
    clear hZ0
    clear hm e1 e2 hb ht
    go_enter Tryz.func5, Tryz.ntmps5
    go_wp2_with fail
    refine (C1.out _ KX.out).mono ?_
    rintro e w1 ⟨rfl, B1⟩
    have KX1 := hide (KX.out.below B1)
    have HB1 := hide (HB0.out.trans (B1.mono HB0.out.size))
    have y0 := (B1.cell (lt_of_cell x0)).trans x0
    have y1 := (B1.cell (lt_of_cell x1)).trans x1
    clear C1 KX HB0 B1 x0 x1
    go_wp2_with fail
    refine (C3.out _ KX1.out).mono ?_
    rintro e V ⟨rfl, B2⟩
    have KV := hide (KX1.out.below B2)
    have HB := hide (HB1.out.trans (B2.mono HB1.out.size))
    clear C3 KX1 HB1 B2 y0 y1
    -- from Parse(t) on: the memory V, HB, KV
    go_wp2_with fail
    refine (P2.out _ KV.out).mono ?_
    rintro e v1 ⟨rfl, D1⟩
    have DY := nbelowW v1 (.cells #[.int .i64 k2, .string (tx b2)] 23)
    have g0 : (v1.alloc (.cells #[.int .i64 k2, .string (tx b2)] 23)).cell? ⟨v1.heap.size, 0, none⟩ = some (.int .i64 k2) := by simp
    have g1 : (v1.alloc (.cells #[.int .i64 k2, .string (tx b2)] 23)).cell? ⟨v1.heap.size, 1, none⟩ = some (.string (tx b2)) := by simp
    have KW := hide ((KV.out.below D1).below DY)
    have HW := hide ((HB.out.trans (D1.mono HB.out.size)).trans (DY.mono (HB.out.trans (D1.mono HB.out.size)).size))
    clear P2 D1 DY KV HB
    rcases HC.out with ⟨q1, q2, q3⟩ | ⟨q1, q2⟩
    · obtain ⟨s1, s2⟩ := HS2.out q2
      rw [s1, q3, s2] at S2
      rw [q2] at M2
      subst q1
      have qt : ((tx t).toList == (tx t).toList) = true := by simp
      clear s1 s2 q2 q3 HC HS2
      generalize tx b2 = tb2 at *
      generalize tx t = tt at *
      go_wp2_with fail
      refine (S2.out _ KW.out).mono ?_
      rintro e v2 ⟨rfl, D2⟩
      have KX := hide (KW.out.below D2)
      have HX := hide (HW.out.trans (D2.mono HW.out.size))
      have y0 := (D2.cell (lt_of_cell g0)).trans g0
      have y1 := (D2.cell (lt_of_cell g1)).trans g1
      clear S2 D2 KW HW g0 g1
      go_wp2_with fail
      refine (M2.out _ KX.out).mono ?_
      rintro e v3 ⟨rfl, D3⟩
      have KY := hide (KX.out.below D3)
      have HY := hide (HX.out.trans (D3.mono HX.out.size))
      clear M2 D3 KX HX y0 y1
      go_wp2_with fail
      refine (TH.out _ KY.out).mono ?_
      rintro e v4 ⟨rfl, D4⟩
      have HZ := hide (HY.out.trans (D4.mono HY.out.size))
      clear TH D4 KY HY
      go_wp2
      go_ret
      exact ⟨rfl, HZ.out⟩
    · subst q1
      have hz : (k2, b2) = ((0 : Int), ([] : List UInt8)) := q2
      simp only [Prod.mk.injEq] at hz
      obtain ⟨hz1, hz2⟩ := hz
      subst hz1
      subst hz2
      have hqe : ∀ W, (eqGt (.agg #[.int .i64 0, .string (tx [])]) (.agg #[.int .i64 0, .string ⟨#[]⟩])).run Tryz.prog W = .ok (.bool true) W := fun W => eqGt_same 0 ⟨#[]⟩ W
      clear HC HS2 S2 M2
      go_wp2_with fail
      refine (TH.out _ KW.out).mono ?_
      rintro e v4 ⟨rfl, D4⟩
      have HZ := hide (HW.out.trans (D4.mono HW.out.size))
      clear TH D4 KW HW g0 g1
      go_wp2
      go_ret
      exact ⟨rfl, HZ.out⟩
  | true =>
    have e1 : showS k b = showL k b := by unfold showS; rw [hm]; rfl
    have e2 : showE k b = 0 := by unfold showE; rw [hm]; rfl
    obtain ⟨p1, p2⟩ := hpar_back hm
    have P1 := hide (fun W (h : Hw W m) => parseH_any (showL k b) (showL_len hm) m W h)
    rw [p1, p2] at P1
    rw [e1, e2] at C1
    rw [hm] at C3
    simp only [] at P1
    clear hm e1 e2 hb ht p1 p2
    generalize tx (showL k b) = Z at *
    generalize tx b = tb at *
    have hqn := fun W => neGt_same k tb W
    go_enter Tryz.func5, Tryz.ntmps5
    go_wp2_with fail
    refine (C1.out _ KX.out).mono ?_
    rintro e w1 ⟨rfl, B1⟩
    have KX1 := hide (KX.out.below B1)
    have HB1 := hide (HB0.out.trans (B1.mono HB0.out.size))
    have y0 := (B1.cell (lt_of_cell x0)).trans x0
    have y1 := (B1.cell (lt_of_cell x1)).trans x1
    clear C1 KX HB0 B1 x0 x1
    go_wp2_with fail
    refine (C3.out _ KX1.out).mono ?_
    rintro e w2 ⟨rfl, B2⟩
    have KX2 := hide (KX1.out.below B2)
    have HB2 := hide (HB1.out.trans (B2.mono HB1.out.size))
    have x0 := (B2.cell (lt_of_cell y0)).trans y0
    have x1 := (B2.cell (lt_of_cell y1)).trans y1
    clear C3 KX1 HB1 B2 y0 y1
    go_wp2_with fail
    refine (P1.out _ KX2.out).mono ?_
    rintro e w3 ⟨rfl, B3⟩
    have BY := nbelowW w3 (.cells #[.int .i64 k, .string tb] 23)
    have g0 : (w3.alloc (.cells #[.int .i64 k, .string tb] 23)).cell? ⟨w3.heap.size, 0, none⟩ = some (.int .i64 k) := by simp
    have g1 : (w3.alloc (.cells #[.int .i64 k, .string tb] 23)).cell? ⟨w3.heap.size, 1, none⟩ = some (.string tb) := by simp
    have z0 := (B3.cell (lt_of_cell x0)).trans x0
    have z1 := (B3.cell (lt_of_cell x1)).trans x1
    have y0 := (BY.cell (lt_of_cell z0)).trans z0
    have y1 := (BY.cell (lt_of_cell z1)).trans z1
    have KV := hide ((KX2.out.below B3).below BY)
    have HB := hide ((HB2.out.trans (B3.mono HB2.out.size)).trans (BY.mono (HB2.out.trans (B3.mono HB2.out.size)).size))
    clear P1 KX2 HB2 B3 BY x0 x1 z0 z1
    -- from Parse(t) on: the memory V, HB, KV
    go_wp2_with fail
    refine (P2.out _ KV.out).mono ?_
    rintro e v1 ⟨rfl, D1⟩
    have DY := nbelowW v1 (.cells #[.int .i64 k2, .string (tx b2)] 23)
    have g0 : (v1.alloc (.cells #[.int .i64 k2, .string (tx b2)] 23)).cell? ⟨v1.heap.size, 0, none⟩ = some (.int .i64 k2) := by simp
    have g1 : (v1.alloc (.cells #[.int .i64 k2, .string (tx b2)] 23)).cell? ⟨v1.heap.size, 1, none⟩ = some (.string (tx b2)) := by simp
    have KW := hide ((KV.out.below D1).below DY)
    have HW := hide ((HB.out.trans (D1.mono HB.out.size)).trans (DY.mono (HB.out.trans (D1.mono HB.out.size)).size))
    clear P2 D1 DY KV HB
    rcases HC.out with ⟨q1, q2, q3⟩ | ⟨q1, q2⟩
    · obtain ⟨s1, s2⟩ := HS2.out q2
      rw [s1, q3, s2] at S2
      rw [q2] at M2
      subst q1
      have qt : ((tx t).toList == (tx t).toList) = true := by simp
      clear s1 s2 q2 q3 HC HS2
      generalize tx b2 = tb2 at *
      generalize tx t = tt at *
      go_wp2_with fail
      refine (S2.out _ KW.out).mono ?_
      rintro e v2 ⟨rfl, D2⟩
      have KX := hide (KW.out.below D2)
      have HX := hide (HW.out.trans (D2.mono HW.out.size))
      have y0 := (D2.cell (lt_of_cell g0)).trans g0
      have y1 := (D2.cell (lt_of_cell g1)).trans g1
      clear S2 D2 KW HW g0 g1
      go_wp2_with fail
      refine (M2.out _ KX.out).mono ?_
      rintro e v3 ⟨rfl, D3⟩
      have KY := hide (KX.out.below D3)
      have HY := hide (HX.out.trans (D3.mono HX.out.size))
      clear M2 D3 KX HX y0 y1
      go_wp2_with fail
      refine (TH.out _ KY.out).mono ?_
      rintro e v4 ⟨rfl, D4⟩
      have HZ := hide (HY.out.trans (D4.mono HY.out.size))
      clear TH D4 KY HY
      go_wp2
      go_ret
      exact ⟨rfl, HZ.out⟩
    · subst q1
      have hz : (k2, b2) = ((0 : Int), ([] : List UInt8)) := q2
      simp only [Prod.mk.injEq] at hz
      obtain ⟨hz1, hz2⟩ := hz
      subst hz1
      subst hz2
      have hqe : ∀ W, (eqGt (.agg #[.int .i64 0, .string (tx [])]) (.agg #[.int .i64 0, .string ⟨#[]⟩])).run Tryz.prog W = .ok (.bool true) W := fun W => eqGt_same 0 ⟨#[]⟩ W
      clear HC HS2 S2 M2
      go_wp2_with fail
      refine (TH.out _ KW.out).mono ?_
      rintro e v4 ⟨rfl, D4⟩
      have HZ := hide (HW.out.trans (D4.mono HW.out.size))
      clear TH D4 KW HW g0 g1
      go_wp2
      go_ret
      exact ⟨rfl, HZ.out⟩

end Go.Proofs.YthnfhkmonfkceaaGreatDoor

namespace Go.Proofs.YthnfhkmonfkceaaGreatDoor
open Go.ChangeShapes Go.WideShapes Go.ChangeAt Go.RowKit

theorem Tryz.own : ownKnob Tryz.prog.godebug = none := by kernel_rfl
theorem Tryz.laidOut : laidOutB Tryz.prog = true := by kernel_rfl
theorem Tryz.cellsB : Tryz.prog.cellsOf 5 = 1 := by kernel_rfl
theorem Tryz.bytesB : Tryz.prog.bytesOf 5 = 1 := by kernel_rfl

theorem src_of_cells {W : World} {a : Addr} {len cap : Nat} {zs : List Int} (hl : len ≤ cap) (hm : cap ≤ maxLen) (hz : zs.length = cap) (hcell : ∀ i, i < zs.length → W.cell? (a.add i) = some (.int .u8 (zs.getD i 0)))
    (hwz : ∀ n ∈ zs, (Lit.int .u8 n).wf = true) : Src W (some a) len cap (zs.take len) := by
  refine ⟨by simp; omega, hl, hm, by simp, ?_, ?_⟩
  · intro hx
    have h0 : 0 < len ∧ 0 < zs.length := by
      rcases Nat.eq_zero_or_pos len with h | h
      · subst h; simp at hx
      · omega
    obtain ⟨b, off, spot⟩ := a
    have hc := hcell 0 h0.2
    have hspot : spot = none := by simpa [Addr.add] using World.cell?_spot hc
    subst hspot
    refine ⟨b, off, rfl, fun i hi => ?_⟩
    have hi' : i < len ∧ i < zs.length := by simp at hi; omega
    have := hcell i hi'.2
    rw [add_none] at this
    rw [this]
    simp [List.getD, hi'.1]
  · intro x hx
    have := hwz x (List.mem_of_mem_take hx)
    have := bounds_u8 this
    omega

/-- An argument of type []byte, as the row reads it. -/
theorem open_bytes {H : Type} {enc : TypeId × Value → H} {W : World} {a0 : Option Addr} {len cap : Nat} {d : DataW H} {p : List MemPlace}
    (h : DataW.Trod enc Tryz.prog W 0 (fun _ => true) true 43 (.slice a0 len cap) d p) :
    ∃ xs, Src W a0 len cap xs ∧ ((d = .nil ∧ len = 0 ∧ cap = 0) ∨ ∃ el sp, d = .slice el sp ∧ el.length + sp.length = cap) := by
  obtain ⟨fuel, hf⟩ := h
  rcases open_ints Tryz.underlying43 Tryz.underlying5 Tryz.cellsB hf with ⟨hcs, hx⟩ | ⟨x, l, c, zs, hcs, _, hl, hm, hz, hx, hcell, hwz⟩
  · simp [Value.cells] at hcs
    obtain ⟨rfl, rfl, rfl⟩ := hcs
    simp only [Prod.mk.injEq] at hx
    exact ⟨[], ⟨rfl, Nat.le_refl _, by decide, fun _ => ⟨rfl, rfl⟩, fun h => absurd rfl h, by simp⟩, .inl ⟨hx.1, rfl, rfl⟩⟩
  · simp [Value.cells] at hcs
    obtain ⟨rfl, rfl, rfl⟩ := hcs
    simp only [Prod.mk.injEq] at hx
    have hz' : zs.length = cap := by simpa using hz
    exact ⟨zs.take len, src_of_cells hl hm hz' hcell hwz, .inr ⟨_, _, hx.1, by simp [lits]; omega⟩⟩

end Go.Proofs.YthnfhkmonfkceaaGreatDoor

namespace Go.Proofs.YthnfhkmonfkceaaGreatDoor
open Go.ChangeShapes Go.WideShapes Go.ChangeAt Go.RowKit

theorem gLabels : Tryz.prog.globalNamed "chancery/name.labels" = some 2 := by kernel_rfl
theorem tLabels : (Tryz.prog.globals[2]?).map (·.type) = some 133 := by kernel_rfl
def labsL : List ByteArray := (List.range 12).map (fun k : Nat => labS (k : Int))
def tabS {H : Type} (ss : List ByteArray) : DataW H := .agg (ss.map fun s => .lit (.string s.data.toList))
theorem dLabels : (Rows.laid_chancery_name_labels : DataW Unit) = tabS labsL := by kernel_rfl

theorem cells_of_tabS {H : Type} {enc : TypeId × Value → H} {P : Program} {w : World} {base : Nat} {sp : Nat → Bool} {held : Bool} {fuel : Nat} {t e : TypeId} {n : Nat} {cs : List Value} {ss : List ByteArray} {p : List MemPlace}
    (ht : P.underlying t = some (.array n e)) (he : P.underlying e = some .string) (hce : P.cellsOf e = 1) (hct : P.cellsOf t = n)
    (h : DataW.trod enc P w base sp held fuel t cs = some (tabS ss, p)) : cs = ss.map Value.string := by
  cases fuel with
  | zero => simp [DataW.trod] at h
  | succ fuel =>
    simp only [DataW.trod, ht, hce, hct, Nat.mul_one] at h
    split at h
    · rename_i hl
      obtain ⟨xs, hm, hx⟩ := Option.map_eq_some_iff.1 h
      have hxs : xs.map (·.1) = ss.map fun s => (DataW.lit (.string s.data.toList) : DataW H) := by
        have := congrArg Prod.fst hx
        simpa [tabS] using this
      have hxl : xs.length = n := by simpa using Lib.mapM_length hm
      have hzl : ss.length = n := by
        have := congrArg List.length hxs
        simp at this
        omega
      apply List.ext_getElem?
      intro i
      by_cases hi : i < n
      · obtain ⟨b, hb, hf⟩ := Lib.mapM_at hm i i (by simp [hi])
        obtain ⟨s, hc, hy, _⟩ := DataW.trod_string he hf
        have h1 : cs[i]? = some (.string s) := by
          have := congrArg (·[0]?) hc
          simpa [List.getElem?_take, List.getElem?_drop] using this
        have h2 : (xs.map (·.1))[i]? = some b.1 := by simp [hb]
        rw [hxs, hy] at h2
        simp only [List.getElem?_map, Option.map_eq_some_iff, DataW.lit.injEq, Lit.string.injEq] at h2
        obtain ⟨s', hs', he'⟩ := h2
        have e : s = s' := by
          have h9 := he'
          first | exact (ByteArray.ext (Array.ext' h9)).symm | (rw [ByteArray.toList_eq] at h9; exact (ByteArray.ext (Array.ext' h9)).symm)
        rw [h1, List.getElem?_map, hs', e]
        rfl
      · rw [List.getElem?_eq_none (by omega), List.getElem?_eq_none (by simp; omega)]
    · cases h

theorem tabN_of_laid {W : World} (h : laidMetH Tryz.prog [("chancery/name.labels", Rows.laid_chancery_name_labels)] W) : TabN W := by
  have h1 : laidMet Tryz.prog [("chancery/name.labels", Rows.laid_chancery_name_labels)] W := h
  rw [dLabels] at h1
  obtain ⟨ps, ⟨g', t', cs, fuel, p, q, hg', ht', hvar, hd, _, _⟩, _⟩ := h1
  obtain rfl := Option.some.inj (gLabels.symm.trans hg')
  obtain rfl := Option.some.inj (tLabels.symm.trans ht')
  have hcs := cells_of_tabS Tryz.underlying133 Tryz.underlying9 (by kernel_rfl) (by kernel_rfl) hd
  intro k hk
  have h2 := World.var?_cell gLabels hvar k
  rw [h2, ← Array.getElem?_toList, hcs]
  unfold labsL
  rw [List.getElem?_map, List.getElem?_map, List.getElem?_range hk]
  rfl

end Go.Proofs.YthnfhkmonfkceaaGreatDoor

namespace Go.Proofs.YthnfhkmonfkceaaGreatDoor
open Go.ChangeShapes Go.WideShapes Go.ChangeAt Go.RowKit

theorem gWords : Tryz.prog.globalNamed "chancery/host.words" = some 0 := by kernel_rfl
theorem tWords : (Tryz.prog.globals[0]?).map (·.type) = some 37 := by kernel_rfl
def wordsH : List ByteArray := (List.range 8).map (fun k : Nat => tx (wordK (k : Int)))
theorem dWords : (Rows.laid_chancery_host_words : DataW Unit) = tabS wordsH := by kernel_rfl
theorem tabW_of_laid {W : World} (h : laidMetH Tryz.prog [("chancery/host.words", Rows.laid_chancery_host_words)] W) : TabW W := by
  have h1 : laidMet Tryz.prog [("chancery/host.words", Rows.laid_chancery_host_words)] W := h
  rw [dWords] at h1
  obtain ⟨ps, ⟨g', t', cs, fuel, p, q, hg', ht', hvar, hd, _, _⟩, _⟩ := h1
  obtain rfl := Option.some.inj (gWords.symm.trans hg')
  obtain rfl := Option.some.inj (tWords.symm.trans ht')
  have hcs := cells_of_tabS Tryz.underlying37 Tryz.underlying9 (by kernel_rfl) (by kernel_rfl) hd
  intro k hk
  have h2 := World.var?_cell gWords hvar k
  rw [h2, ← Array.getElem?_toList, hcs]
  unfold wordsH
  rw [List.getElem?_map, List.getElem?_map, List.getElem?_range hk]
  rfl
theorem hw_of_laid {W : World} {m : Int} {l : List (String × DataW Unit)} (h : laidMetH Tryz.prog l W) (e1 : l.filter (fun x => x.1 == "chancery/name.labels") = [("chancery/name.labels", Rows.laid_chancery_name_labels)])
    (e2 : l.filter (fun x => x.1 == "chancery/host.words") = [("chancery/host.words", Rows.laid_chancery_host_words)]) (hm : W.cell? ⟨1, 0, none⟩ = some (.int .i64 m)) : Hw W m := by
  have h1 := h.filter (fun x => x.1 == "chancery/name.labels")
  rw [e1] at h1
  have h2 := h.filter (fun x => x.1 == "chancery/host.words")
  rw [e2] at h2
  exact ⟨hm, tabN_of_laid h1, tabW_of_laid h2⟩

end Go.Proofs.YthnfhkmonfkceaaGreatDoor

namespace Go.Proofs.YthnfhkmonfkceaaGreatDoor
open Go.ChangeShapes Go.WideShapes Go.ChangeAt Go.RowKit Go.Joins

theorem Tryz.laidOutG : laidOutB Tryz.prog = true := by kernel_rfl

theorem Tryz.cellsgeneral : Tryz.prog.cellsOf 23 = 2 := by kernel_rfl

set_option maxRecDepth 100000 in
theorem open_general {H : Type} {enc : TypeId × Value → H} {W : World} {r : Reach} {b0 : Nat} {v : Value} {d : DataW H} {p : List MemPlace}
    (hv : Value.okWide Tryz.prog W r b0 23 v) (h : DataW.Trod enc Tryz.prog W 0 (fun _ => true) true 23 v d p) :
    ∃ t s, v = .agg #[.int .i64 t, .string s] ∧ (Lit.int .i64 t).wf = true ∧ s.size ≤ Rows.uptoBulk d := by
  obtain ⟨v0, v1, y0, y1, m, rfl, rfl, rfl, hy0, hy1⟩ := open_agg2 Tryz.underlying23 (by kernel_rfl) Tryz.cellsgeneral hv h
  obtain ⟨t, e0, hy, hwf⟩ := DataW.trod_int Tryz.underlying3 hy0
  simp only [List.cons.injEq, and_true] at e0
  subst e0
  obtain ⟨s, e1, hz, _⟩ := DataW.trod_string Tryz.underlying9 hy1
  simp only [List.cons.injEq, and_true] at e1
  subst e1
  refine ⟨t, s, rfl, hwf, ?_⟩
  have h8 := sizeH_len s
  rw [hz]
  simp only [Rows.uptoBulk, Rows.uptoBulkAll]
  omega

end Go.Proofs.YthnfhkmonfkceaaGreatDoor
