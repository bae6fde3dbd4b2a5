/-
  within.Row, and the document's.
-/
import Derived.Test.YtklchpdpooikdaaGreatDoorYWiRChk
namespace Go.Proofs.YtklchpdpooikdaaGreatDoor
open Go.RowKit Go.IntWalk Go.Shelf

def rowF (ps es : List (Int × ByteArray)) : Nat → List (Int × ByteArray) → Int × Int × Int
  | _, [] => (0, 0, 0)
  | k, x :: r => if (chkV ps es x.1 x.2.data.toList).2 ≠ 0 then ((k : Int), (chkV ps es x.1 x.2.data.toList).1, (chkV ps es x.1 x.2.data.toList).2) else rowF ps es (k + 1) r
def rowV (ps es ls : List (Int × ByteArray)) : Int × Int × Int := rowF ps es 0 ls
theorem rowF_at (ps es ls : List (Int × ByteArray)) (k : Nat) (h : k < ls.length) (V : Int × Int × Int) (hV : V = rowF ps es k (ls.drop k)) :
    ((chkV ps es (ls.getD k (0, ByteArray.empty)).1 (ls.getD k (0, ByteArray.empty)).2.data.toList).2 ≠ 0 → V = ((k : Int), (chkV ps es (ls.getD k (0, ByteArray.empty)).1 (ls.getD k (0, ByteArray.empty)).2.data.toList).1, (chkV ps es (ls.getD k (0, ByteArray.empty)).1 (ls.getD k (0, ByteArray.empty)).2.data.toList).2)) ∧
    ((chkV ps es (ls.getD k (0, ByteArray.empty)).1 (ls.getD k (0, ByteArray.empty)).2.data.toList).2 = 0 → V = rowF ps es (k + 1) (ls.drop (k + 1))) := by
  rw [hV, List.drop_eq_getElem_cons h, rowF]
  have e : ls.getD k (0, ByteArray.empty) = ls[k] := by simp [List.getD, List.getElem?_eq_getElem h]
  rw [e]
  exact ⟨fun h => by rw [if_pos h], fun h => by rw [if_neg (by simpa using h)]⟩

set_option maxRecDepth 100000 in
set_option maxHeartbeats 4000000 in
theorem row_any (a1 : Option Addr) (n1 c1 : Nat) (ps : List (Int × ByteArray)) (a2 : Option Addr) (n2 c2 : Nat) (es : List (Int × ByteArray)) (a3 : Option Addr) (n3 c3 : Nat) (ls : List (Int × ByteArray)) (hwf : ∀ x ∈ ls, (Lit.int .i64 x.1).wf = true) (m : Int) (w : World) (hm : ML w m) (hP : RowIn w a1 n1 c1 ps) (hE : RowIn w a2 n2 c2 es) (hL : RowIn w a3 n3 c3 ls) :
    Calls Tryz.prog 5 #[.slice a1 n1 c1, .slice a2 n2 c2, .slice a3 n3 c3] w fun e w' => e = .returned (.tuple #[.int .i64 (rowV ps es ls).1, .int .i64 (rowV ps es ls).2.1, .int .i64 (rowV ps es ls).2.2]) ∧ Below w.heap.size w w' := by
  have HP := hide hP
  have HE := hide hE
  have HL := hide hL
  have HM := hide hm
  have HW := hide hwf
  have hl := hL.ats.hl
  have hn := hL.hn
  have hcap := hL.ats.hcap
  have n3I : (n3 : Int) ≤ 2097152 := by omega
  clear hP hE hL hm hwf
  obtain ⟨V, hV⟩ : ∃ V, rowV ps es ls = V := ⟨_, rfl⟩
  rw [hV]
  have HV := hide hV
  clear hV
  go_enter Tryz.func5, Tryz.ntmps5
  go_wp2
  go_loopw [15] (fun i wr => ∃ k : Nat, i = .int .i64 k ∧ k ≤ n3 ∧ Hid (V = rowF ps es k (ls.drop k)) ∧ Below w.heap.size w wr) (fun i _ => n3 - (intOf i).toNat)
  case atStart => exact ⟨0, rfl, Nat.zero_le _, HV.out.symm, Below.refl _ _⟩
  case round =>
    obtain ⟨k, rfl, hk, hR, hB⟩ := hrel
    by_cases hlt : k < n3
    · have ltI : (k : Int) < (n3 : Int) := by omega
      obtain ⟨b, off, rfl, hcl⟩ := (HL.out.below hB).ats.hrd (by omega)
      obtain ⟨e0, e1⟩ := hcl k hlt
      have hmem : ls.getD k (0, ByteArray.empty) ∈ ls := getD_mem (by omega)
      have hlen := HL.out.len hmem
      have hxw := HW.out _ hmem
      have hst := hide (rowF_at ps es ls k (by omega) V hR.out)
      generalize ls.getD k (0, ByteArray.empty) = x at e0 e1 hmem hlen hxw hst
      obtain ⟨t, s⟩ := x
      simp only [] at e0 e1 hlen hxw
      have htx : tx s.data.toList = s := rfl
      have hc := hide (fun W (h : Below w.heap.size w W) => check_any a1 n1 c1 ps a2 n2 c2 es t hxw s.data.toList hlen m W (HM.out.below h) (HP.out.below h) (HE.out.below h))
      rw [htx] at hc
      clear hcl hmem hlen hxw htx hR
      generalize chkV ps es t s.data.toList = C at *
      obtain ⟨C1, C2⟩ := C
      simp only [] at hc hst
      have BY := nbelow wr (.cells #[.int .i64 t, .string s] 32)
      have g0 : (wr.alloc (.cells #[.int .i64 t, .string s] 32)).cell? ⟨wr.heap.size, 0, none⟩ = some (.int .i64 t) := by simp
      have g1 : (wr.alloc (.cells #[.int .i64 t, .string s] 32)).cell? ⟨wr.heap.size, 1, none⟩ = some (.string s) := by simp
      have hBc := hB.trans (BY.mono hB.size)
      clear BY
      by_cases hq : C2 = 0
      · subst hq
        have hN := hide (hst.out.2 rfl)
        clear hst
        go_wp2_with fail
        refine (hc.out _ hBc).mono ?_
        rintro e w2 ⟨rfl, B2⟩
        have hB2 := hBc.trans (B2.mono hBc.size)
        clear B2 hc
        go_wp2
        go_roundw
        case rel => exact ⟨k + 1, by go_num, by omega, hN.out, hB2⟩
        case measure => simp [intOf]; omega
      · have hVV := hide (hst.out.1 hq)
        have qI : (C2 == 0) = false := by simpa using hq
        clear hst
        go_wp2_with fail
        refine (hc.out _ hBc).mono ?_
        rintro e w2 ⟨rfl, B2⟩
        have hB2 := hBc.trans (B2.mono hBc.size)
        clear B2 hc
        go_wp2
        refine bodyPost_ret (v := .tuple #[.int .i64 k, .int .i64 C1, .int .i64 C2]) (by simp [results, Tryz.results5, go_sem]) rfl ⟨by rw [hVV.out], hB2⟩
    · obtain rfl : k = n3 := by omega
      have nI : ¬ ((k : Int) < (k : Int)) := by omega
      have hVV : Hid (V = (0, 0, 0)) := by
        have h := hR.out
        rw [List.drop_eq_nil_of_le (by omega)] at h
        exact h
      clear hR
      go_wp2
      refine bodyPost_ret (v := .tuple #[.int .i64 0, .int .i64 0, .int .i64 0]) (by simp [results, Tryz.results5, go_sem]) rfl ⟨by rw [hVV.out], hB⟩

set_option maxRecDepth 100000 in
set_option maxHeartbeats 4000000 in
theorem refRowW_any (a1 : Option Addr) (n1 c1 : Nat) (ps : List (Int × ByteArray)) (a2 : Option Addr) (n2 c2 : Nat) (es : List (Int × ByteArray)) (a3 : Option Addr) (n3 c3 : Nat) (ls : List (Int × ByteArray)) (hwf : ∀ x ∈ ls, (Lit.int .i64 x.1).wf = true) (m : Int) (w : World) (hm : ML w m) (hP : RowIn w a1 n1 c1 ps) (hE : RowIn w a2 n2 c2 es) (hL : RowIn w a3 n3 c3 ls) :
    Calls Tryz.prog 6 #[.slice a1 n1 c1, .slice a2 n2 c2, .slice a3 n3 c3] w fun e w' => e = .returned (.tuple #[.int .i64 (rowV ps es ls).1, .int .i64 (rowV ps es ls).2.1, .int .i64 (rowV ps es ls).2.2]) ∧ Below w.heap.size w w' := by
  have HP := hide hP
  have HE := hide hE
  have HL := hide hL
  have HM := hide hm
  have HW := hide hwf
  have hl := hL.ats.hl
  have hn := hL.hn
  have hcap := hL.ats.hcap
  have n3I : (n3 : Int) ≤ 2097152 := by omega
  clear hP hE hL hm hwf
  obtain ⟨V, hV⟩ : ∃ V, rowV ps es ls = V := ⟨_, rfl⟩
  rw [hV]
  have HV := hide hV
  clear hV
  go_enter Tryz.func6, Tryz.ntmps6
  go_wp2
  go_loopw [9] (fun i wr => ∃ k : Nat, i = .int .i64 k ∧ k ≤ n3 ∧ Hid (V = rowF ps es k (ls.drop k)) ∧ Below w.heap.size w wr) (fun i _ => n3 - (intOf i).toNat)
  case atStart => exact ⟨0, rfl, Nat.zero_le _, HV.out.symm, Below.refl _ _⟩
  case round =>
    obtain ⟨k, rfl, hk, hR, hB⟩ := hrel
    by_cases hlt : k < n3
    · have ltI : (k : Int) < (n3 : Int) := by omega
      obtain ⟨b, off, rfl, hcl⟩ := (HL.out.below hB).ats.hrd (by omega)
      obtain ⟨e0, e1⟩ := hcl k hlt
      have hmem : ls.getD k (0, ByteArray.empty) ∈ ls := getD_mem (by omega)
      have hlen := HL.out.len hmem
      have hxw := HW.out _ hmem
      have hst := hide (rowF_at ps es ls k (by omega) V hR.out)
      generalize ls.getD k (0, ByteArray.empty) = x at e0 e1 hmem hlen hxw hst
      obtain ⟨t, s⟩ := x
      simp only [] at e0 e1 hlen hxw
      have htx : tx s.data.toList = s := rfl
      have hc := hide (fun W (h : Below w.heap.size w W) => refCheck_any a1 n1 c1 ps a2 n2 c2 es t s.data.toList hlen W (HP.out.below h) (HE.out.below h))
      rw [htx] at hc
      clear hcl hmem hlen hxw htx hR
      generalize chkV ps es t s.data.toList = C at *
      obtain ⟨C1, C2⟩ := C
      simp only [] at hc hst
      have hBc := hB
      by_cases hq : C2 = 0
      · subst hq
        have hN := hide (hst.out.2 rfl)
        clear hst
        go_wp2_with fail
        refine (hc.out _ hBc).mono ?_
        rintro e w2 ⟨rfl, B2⟩
        have hB2 := hBc.trans (B2.mono hBc.size)
        clear B2 hc
        go_wp2
        go_roundw
        case rel => exact ⟨k + 1, by go_num, by omega, hN.out, hB2⟩
        case measure => simp [intOf]; omega
      · have hVV := hide (hst.out.1 hq)
        have qI : (C2 == 0) = false := by simpa using hq
        clear hst
        go_wp2_with fail
        refine (hc.out _ hBc).mono ?_
        rintro e w2 ⟨rfl, B2⟩
        have hB2 := hBc.trans (B2.mono hBc.size)
        clear B2 hc
        go_wp2
        refine bodyPost_ret (v := .tuple #[.int .i64 k, .int .i64 C1, .int .i64 C2]) (by simp [results, Tryz.results6, go_sem]) rfl ⟨by rw [hVV.out], hB2⟩
    · obtain rfl : k = n3 := by omega
      have nI : ¬ ((k : Int) < (k : Int)) := by omega
      have hVV : Hid (V = (0, 0, 0)) := by
        have h := hR.out
        rw [List.drop_eq_nil_of_le (by omega)] at h
        exact h
      clear hR
      go_wp2
      refine bodyPost_ret (v := .tuple #[.int .i64 0, .int .i64 0, .int .i64 0]) (by simp [results, Tryz.results6, go_sem]) rfl ⟨by rw [hVV.out], hB⟩

end Go.Proofs.YtklchpdpooikdaaGreatDoor
