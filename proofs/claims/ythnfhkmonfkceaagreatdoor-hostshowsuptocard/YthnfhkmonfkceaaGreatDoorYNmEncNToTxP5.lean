/-
  name.Encode: the bytes of a name.
  The document's Prints, May and Kind.
-/
import Derived.Test.YthnfhkmonfkceaaGreatDoorYNmEnc
import Derived.Test.YthnfhkmonfkceaaGreatDoorYBaseToBts
import Derived.Test.YthnfhkmonfkceaaGreatDoorYTxP4ToSize
namespace Go.Proofs.YthnfhkmonfkceaaGreatDoor
open Go.RowKit Go.IntWalk Go.Shelf

/-- The bytes of the attributes. -/
def encR (xs : List (Int × ByteArray)) : List Int := (xs.map (fun x => encA x.1 x.2)).flatten
theorem encR_snoc (xs : List (Int × ByteArray)) (k : Nat) (h : k < xs.length) : encR (xs.take (k + 1)) = encR (xs.take k) ++ encA (xs.getD k (0, ByteArray.empty)).1 (xs.getD k (0, ByteArray.empty)).2 := by
  unfold encR
  rw [List.take_succ_eq_append_getElem h, List.map_append, List.flatten_append]
  simp [List.getD, h]
theorem encR_byte (xs : List (Int × ByteArray)) : Byt (encR xs) := by
  intro x hx
  unfold encR at hx
  obtain ⟨l, hl, hx⟩ := List.mem_flatten.1 hx
  obtain ⟨y, _, rfl⟩ := List.mem_map.1 hl
  exact encA_byte _ _ x hx
/-- The bytes of a name, or none; and the error's number. -/
def encNC (xs : List (Int × ByteArray)) : List Int := if nameL xs = true then putB 48 [encR xs] else []
def encNE (xs : List (Int × ByteArray)) : Int := if nameL xs = true then 0 else 120
theorem encNC_byte (xs : List (Int × ByteArray)) : Byt (encNC xs) := by
  unfold encNC
  split
  · exact putB_byte _ _ (fun l hl => by simp at hl; subst hl; exact encR_byte _)
  · intro x hx; cases hx

theorem putB_len (tag : Int) (ls : List (List Int)) : (putB tag ls).length ≤ ls.flatten.length + 5 := by
  unfold putB putS
  split
  · simp
  · split
    · simp
    · rename_i h
      have := lenB_len4 ls.flatten.length
      simp only [List.nil_append, List.length_append, List.length_cons, List.length_nil]
      omega
theorem putB_ne (tag : Int) (ls : List (List Int)) (h1 : isTagB tag = true) (h2 : ls.flatten.length ≤ 16777215) : putB tag ls ≠ [] := by
  unfold putB putS
  rw [if_neg (by simp [h1]), if_neg (by omega)]
  simp
theorem idB_len (t : Int) : (idB t).length ≤ 20 := by
  unfold idB encC encS
  split
  · have h1 := flat_len ([2, 5, 4, t].drop 2)
    have h2 := numB_len (40 * [2, 5, 4, t].getD 0 0 + [2, 5, 4, t].getD 1 0)
    have h3 := sizeS_in (40 * [2, 5, 4, t].getD 0 0 + [2, 5, 4, t].getD 1 0)
    rw [List.length_append]
    simp only [List.drop_succ_cons, List.drop_zero, List.length_cons, List.length_nil] at h1 ⊢
    omega
  · simp
theorem encA_ne (t : Int) (s : ByteArray) (hs : s.size ≤ 1048576) : encA t s ≠ [] := by
  unfold encA
  refine putB_ne _ _ (by decide) ?_
  have h1 := putB_len 48 [putB 6 [idB t], putB (kindL s.data.toList).1 [nums s.data.toList]]
  have h2 := putB_len 6 [idB t]
  have h3 := putB_len (kindL s.data.toList).1 [nums s.data.toList]
  have h4 := idB_len t
  have h5 : (nums s.data.toList).length = s.size := by unfold nums; rw [List.length_map, size_len]
  simp only [List.flatten_cons, List.flatten_nil, List.append_nil, List.length_append] at h1 h2 h3 ⊢
  omega
theorem encA_len (t : Int) (s : ByteArray) (hs : s.size ≤ 1048576) : (encA t s).length ≤ 1100000 := by
  unfold encA
  have h0 := putB_len 49 [putB 48 [putB 6 [idB t], putB (kindL s.data.toList).1 [nums s.data.toList]]]
  have h1 := putB_len 48 [putB 6 [idB t], putB (kindL s.data.toList).1 [nums s.data.toList]]
  have h2 := putB_len 6 [idB t]
  have h3 := putB_len (kindL s.data.toList).1 [nums s.data.toList]
  have h4 := idB_len t
  have h5 : (nums s.data.toList).length = s.size := by unfold nums; rw [List.length_map, size_len]
  simp only [List.flatten_cons, List.flatten_nil, List.append_nil, List.length_append] at h0 h1 h2 h3 ⊢
  omega
theorem encR_len (xs : List (Int × ByteArray)) (k : Nat) (hk : k ≤ xs.length) (hz : ∀ x ∈ xs, x.2.size ≤ 1048576) : (encR (xs.take k)).length ≤ k * 1100000 := by
  induction k with
  | zero => simp [encR]
  | succ k ih =>
    rw [encR_snoc xs k (by omega), List.length_append]
    have h1 := encA_len (xs.getD k (0, ByteArray.empty)).1 (xs.getD k (0, ByteArray.empty)).2 (hz _ (getD_mem (by omega)))
    have h2 := ih (by omega)
    omega
theorem attr_type {t : Int} {l : List UInt8} (h : attrL t l = true) : 0 ≤ t ∧ t ≤ 255 := by
  unfold attrL at h
  split at h
  · omega
  · split at h
    · omega
    · rw [Bool.and_eq_true] at h
      have := of_decide_eq_true h.1
      omega

set_option maxRecDepth 100000 in
set_option maxHeartbeats 2000000 in
theorem encodeN_any (ao : Option Addr) (n cap : Nat) (xs : List (Int × ByteArray)) (w : World) (hA : Ats w ao n cap xs) (hz : ∀ x ∈ xs, x.2.size ≤ 1048576) :
    Calls Tryz.prog 78 #[.slice ao n cap] w fun e w' => ∃ a m c, e = .returned (.tuple #[.slice a m c, .int .i64 (encNE xs)]) ∧ OwnB w' w.heap.size (.slice a m c) (encNC xs) ∧ Below w.heap.size w w' := by
  have hM := hide (mayN_any ao n cap xs w hA (fun x hx => by have := hz x hx; omega))
  have HL := hide hA.hl
  have hc := hA.hcap
  have hm := hA.hmax
  unfold maxLen at hm
  have HA := hide hA
  have HZ := hide hz
  clear hA hz
  cases hN : nameL xs with
  | false =>
    have e1 : encNC xs = [] := by unfold encNC; rw [hN]; rfl
    have e2 : encNE xs = 120 := by unfold encNE; rw [hN]; rfl
    rw [e1, e2]
    rw [hN] at hM
    clear hN e1 e2
    go_enter Tryz.func78, Tryz.ntmps78
    go_wp2_with fail
    refine hM.out.mono ?_
    rintro e w1 ⟨rfl, B1⟩
    go_wp2
    refine bodyPost_ret (v := .tuple #[.slice none 0 0, .int .i64 120]) (by simp [results, Tryz.results78, go_sem]) rfl ⟨none, 0, 0, rfl, OwnB.nil _ _, B1⟩
  | true =>
    have e1 : encNC xs = (putS [] 48 [encR xs]).1 := by unfold encNC; rw [hN]; rfl
    have e2 : encNE xs = 0 := by unfold encNE; rw [hN]; rfl
    have h16 : n ≤ 16 := by
      unfold nameL at hN
      rw [Bool.and_eq_true] at hN
      have := of_decide_eq_true hN.1
      rw [HL.out] at this
      exact this
    have HAT : Hid (∀ x ∈ xs, attrL x.1 x.2.data.toList = true) := by
      unfold nameL at hN
      rw [Bool.and_eq_true] at hN
      exact List.all_eq_true.1 hN.2
    rw [e1, e2]
    rw [hN] at hM
    clear hN e1 e2
    go_enter Tryz.func78, Tryz.ntmps78
    go_wp2_with fail
    refine hM.out.mono ?_
    rintro e w1 ⟨rfl, B1⟩
    have HB := hide B1
    clear B1 hM
    go_wp2
    go_loopw [4, 12] (fun cv v wr => ∃ (aC : Option Addr) (mC cC k : Nat), cv = .slice aC mC cC ∧ v = .int .i64 k ∧ k ≤ n ∧ Hid (OwnB wr w.heap.size (.slice aC mC cC) (encR (xs.take k)) ∧ Below w.heap.size w wr)) (fun _ v _ => n - (intOf v).toNat)
    case atStart => exact ⟨none, 0, 0, 0, rfl, rfl, Nat.zero_le _, OwnB.nil _ _, HB.out⟩
    case round =>
      obtain ⟨aC, mC, cC, k, rfl, rfl, hk, HQ⟩ := hrel
      by_cases hlt : k < n
      · have ltI : (k : Int) < (n : Int) := by omega
        obtain ⟨b, off, rfl, hcl⟩ := (HA.out.below HQ.out.2).hrd (by omega)
        obtain ⟨c0, c1⟩ := hcl k hlt
        have hsn := hide (encR_snoc xs k (by rw [HL.out]; exact hlt))
        have hmem := getD_mem (xs := xs) (i := k) (by rw [HL.out]; exact hlt)
        have hsz := HZ.out _ hmem
        have hty := attr_type (HAT.out _ hmem)
        have hln := hide (encR_len xs k (by rw [HL.out]; exact hk) HZ.out)
        generalize xs.getD k (0, ByteArray.empty) = x at c0 c1 hsn hsz hty
        obtain ⟨t, s⟩ := x
        simp only [] at c0 c1 hsz hty
        clear hcl hmem
        replace hsn : Hid (encR (xs.take (k + 1)) = encR (xs.take k) ++ encA t s) := hsn.out
        have hE := hide (fun W => encoded_any t s hty hsz W)
        have hne := hide (encA_ne t s hsz)
        have hAl := hide (encA_len t s hsz)
        have hAb := hide (encA_byte t s)
        generalize encA t s = E at hE hne hAl hsn hAb
        have B2 := hide (HQ.out.2.alloc HQ.out.2.size (.cells #[.int .i64 t, .string s] 67))
        have O2 := hide (HQ.out.1.alloc (.cells #[.int .i64 t, .string s] 67))
        go_wp2_with fail
        refine (hE.out _).mono ?_
        rintro e w2 ⟨x2, m2, c2, rfl, o2, L2⟩
        have B3 := hide (B2.out.trans (L2.mono B2.out.size))
        have O3 := hide (O2.out.belowA L2)
        have S2 := hide (o2.toSrc hAb.out)
        clear o2 L2 B2 O2 hE
        go_wp2_with (at_builtin; refine wpList_appN _ rfl (.tmp 16) (.tmp 18) rfl w.heap.size (.slice aC mC cC) (encR (xs.take k)) rfl O3.out x2 m2 c2 E rfl S2.out ((encR (xs.take k)).length + E.length) (by rw [List.length_append]) (.inr hne.out) (by have := hln.out; have := hAl.out; omega) B3.out.size ?_; intro g3 c3 w3 ho3 hb3 hl3 hc3 hm3 hg3)
        go_roundw
        case rel => exact ⟨some ⟨g3, 0, none⟩, (encR (xs.take k)).length + E.length, c3, k + 1, rfl, by simp, by omega, by rw [hsn.out]; exact ho3, B3.out.grown hg3 B3.out.size (fun j hj => (O3.out.lt j hj).1)⟩
        case measure => simp [intOf]; omega
      · have ltI : ¬ (k : Int) < (n : Int) := by omega
        obtain rfl : k = n := by omega
        have hx : xs.take k = xs := List.take_of_length_le (by rw [HL.out]; omega)
        rw [hx] at HQ
        have S0 := HQ.out.1.toSrc (encR_byte xs)
        have hb := nbelow wr (.cells #[.slice aC mC cC] 43)
        have r0 : (wr.alloc (.cells #[.slice aC mC cC] 43)).cell? ⟨wr.heap.size, 0, none⟩ = some (.slice aC mC cC) := by simp
        have hP := hide (nput_any 48 _ 1 1 _ _ _ (Parts.one r0 (S0.below hb)) (by decide))
        have B2 := hide (HQ.out.2.trans (hb.mono HQ.out.2.size))
        clear S0 hb r0
        go_wp2_with fail
        refine hP.out.mono ?_
        rintro e w2 ⟨x2, m2, c2, rfl, o2, L2⟩
        go_wp2
        refine bodyPost_ret (v := .tuple #[.slice x2 m2 c2, .int .i64 0]) (by simp [results, Tryz.results78, go_sem]) rfl ⟨x2, m2, c2, rfl, o2.rebase B2.out.size, B2.out.trans (L2.mono B2.out.size)⟩

end Go.Proofs.YthnfhkmonfkceaaGreatDoor

namespace Go.Proofs.YthnfhkmonfkceaaGreatDoor
open Go.RowKit Go.IntWalk

theorem marks_at : ∀ k : Nat, ∀ h : k < marksB.size, (marksB[k]'h).toNat = [32, 39, 40, 41, 43, 44, 45, 46, 47, 58, 61, 63].getD k 0 := by
  intro k h
  have h12 : k < 12 := h
  have : k = 0 ∨ k = 1 ∨ k = 2 ∨ k = 3 ∨ k = 4 ∨ k = 5 ∨ k = 6 ∨ k = 7 ∨ k = 8 ∨ k = 9 ∨ k = 10 ∨ k = 11 := by omega
  rcases this with rfl | rfl | rfl | rfl | rfl | rfl | rfl | rfl | rfl | rfl | rfl | rfl <;> rfl

/-- The marks from a place on. -/
def marksFrom (k : Nat) : List Nat := [32, 39, 40, 41, 43, 44, 45, 46, 47, 58, 61, 63].drop k

theorem marksFrom_step (k c : Nat) (h : k < 12) : (marksFrom k).contains c = (decide (c = [32, 39, 40, 41, 43, 44, 45, 46, 47, 58, 61, 63].getD k 0) || (marksFrom (k + 1)).contains c) := by
  unfold marksFrom
  have hl : k < [32, 39, 40, 41, 43, 44, 45, 46, 47, 58, 61, 63].length := h
  rw [List.drop_eq_getElem_cons hl, List.contains_cons, List.getD_eq_getElem?_getD, List.getElem?_eq_getElem hl]
  rfl



set_option maxRecDepth 100000 in
set_option maxHeartbeats 2000000 in
theorem prints_any (c : Nat) (hc : c < 256) (w : World) :
    Calls Tryz.prog 102 #[.int .u8 c] w fun e w' => e = .returned (.bool (printN c)) ∧ w' = w := by
  have hP : Hid (printN c = (decide (65 ≤ c ∧ c ≤ 90) || decide (97 ≤ c ∧ c ≤ 122) || decide (48 ≤ c ∧ c ≤ 57) || markN c)) := rfl
  have hA := hide marks_at
  have hM : Hid ((marksFrom 0).contains c = markN c) := rfl
  generalize markN c = M at hP hM
  generalize printN c = R at hP ⊢
  by_cases h1 : (65 ≤ c ∧ c ≤ 90) ∨ (97 ≤ c ∧ c ≤ 122) ∨ (48 ≤ c ∧ c ≤ 57)
  · have hR : R = true := by rw [hP.out]; simp; omega
    subst hR
    clear hP
    go_enter Tryz.func102, Tryz.ntmps102
    go_wp2
    all_goals first
      | (exfalso; omega)
      | (go_ret; exact ⟨rfl, rfl⟩)
  · have hR : Hid (R = M) := by unfold Hid; rw [hP.out, Bool.eq_iff_iff]; cases M <;> simp <;> omega
    clear hP
    have e1 : ¬ ((97 : Int) ≤ c ∧ (c : Int) ≤ 122) := by omega
    have e2 : ¬ ((65 : Int) ≤ c ∧ (c : Int) ≤ 90) := by omega
    have e3 : ¬ ((48 : Int) ≤ c ∧ (c : Int) ≤ 57) := by omega
    go_enter Tryz.func102, Tryz.ntmps102
    have hm : marksB = ⟨#[32, 39, 40, 41, 43, 44, 45, 46, 47, 58, 61, 63]⟩ := rfl
    rw [← hm]
    generalize hm2 : marksB = m at hA
    have hz : m.size = 12 := by rw [← hm2]; rfl
    clear hm hm2
    go_wp2
    · go_loop [4] (fun i => ∃ k : Nat, i = .int .i64 k ∧ k ≤ 12 ∧ Hid (R = (marksFrom k).contains c)) (fun i => 12 - (intOf i).toNat)
      case atStart => exact ⟨0, rfl, by omega, by unfold Hid; rw [hR.out, ← hM.out]⟩
      case round =>
        obtain ⟨k, rfl, hk, hE⟩ := hrel
        by_cases hlt : k < 12
        · have hsz : k < m.size := by omega
          have hb := hA.out k hsz
          have st := hide (marksFrom_step k c hlt)
          generalize [32, 39, 40, 41, 43, 44, 45, 46, 47, 58, 61, 63].getD k 0 = x at hb st
          by_cases he : c = x
          · have hF : Hid (R = true) := by unfold Hid; rw [hE.out, st.out, decide_eq_true he]; rfl
            subst he
            go_wp2
            go_ret
            exact ⟨by rw [hF.out]; rfl, rfl⟩
          · have hF : Hid (R = (marksFrom (k + 1)).contains c) := by unfold Hid; rw [hE.out, st.out, decide_eq_false he]; rfl
            have hq : ((x : Int) == (c : Int)) = false := by simp; omega
            go_wp2
            exact ⟨⟨k + 1, by simp, by omega, hF⟩, by simp [intOf]; omega⟩
        · obtain rfl : k = 12 := by omega
          have hF : Hid (R = false) := hE
          go_wp2
          go_ret
          exact ⟨by rw [hF.out]; rfl, rfl⟩
    · go_loop [4] (fun i => ∃ k : Nat, i = .int .i64 k ∧ k ≤ 12 ∧ Hid (R = (marksFrom k).contains c)) (fun i => 12 - (intOf i).toNat)
      case atStart => exact ⟨0, rfl, by omega, by unfold Hid; rw [hR.out, ← hM.out]⟩
      case round =>
        obtain ⟨k, rfl, hk, hE⟩ := hrel
        by_cases hlt : k < 12
        · have hsz : k < m.size := by omega
          have hb := hA.out k hsz
          have st := hide (marksFrom_step k c hlt)
          generalize [32, 39, 40, 41, 43, 44, 45, 46, 47, 58, 61, 63].getD k 0 = x at hb st
          by_cases he : c = x
          · have hF : Hid (R = true) := by unfold Hid; rw [hE.out, st.out, decide_eq_true he]; rfl
            subst he
            go_wp2
            go_ret
            exact ⟨by rw [hF.out]; rfl, rfl⟩
          · have hF : Hid (R = (marksFrom (k + 1)).contains c) := by unfold Hid; rw [hE.out, st.out, decide_eq_false he]; rfl
            have hq : ((x : Int) == (c : Int)) = false := by simp; omega
            go_wp2
            exact ⟨⟨k + 1, by simp, by omega, hF⟩, by simp [intOf]; omega⟩
        · obtain rfl : k = 12 := by omega
          have hF : Hid (R = false) := hE
          go_wp2
          go_ret
          exact ⟨by rw [hF.out]; rfl, rfl⟩
    · go_loop [4] (fun i => ∃ k : Nat, i = .int .i64 k ∧ k ≤ 12 ∧ Hid (R = (marksFrom k).contains c)) (fun i => 12 - (intOf i).toNat)
      case atStart => exact ⟨0, rfl, by omega, by unfold Hid; rw [hR.out, ← hM.out]⟩
      case round =>
        obtain ⟨k, rfl, hk, hE⟩ := hrel
        by_cases hlt : k < 12
        · have hsz : k < m.size := by omega
          have hb := hA.out k hsz
          have st := hide (marksFrom_step k c hlt)
          generalize [32, 39, 40, 41, 43, 44, 45, 46, 47, 58, 61, 63].getD k 0 = x at hb st
          by_cases he : c = x
          · have hF : Hid (R = true) := by unfold Hid; rw [hE.out, st.out, decide_eq_true he]; rfl
            subst he
            go_wp2
            go_ret
            exact ⟨by rw [hF.out]; rfl, rfl⟩
          · have hF : Hid (R = (marksFrom (k + 1)).contains c) := by unfold Hid; rw [hE.out, st.out, decide_eq_false he]; rfl
            have hq : ((x : Int) == (c : Int)) = false := by simp; omega
            go_wp2
            exact ⟨⟨k + 1, by simp, by omega, hF⟩, by simp [intOf]; omega⟩
        · obtain rfl : k = 12 := by omega
          have hF : Hid (R = false) := hE
          go_wp2
          go_ret
          exact ⟨by rw [hF.out]; rfl, rfl⟩
    · go_loop [4] (fun i => ∃ k : Nat, i = .int .i64 k ∧ k ≤ 12 ∧ Hid (R = (marksFrom k).contains c)) (fun i => 12 - (intOf i).toNat)
      case atStart => exact ⟨0, rfl, by omega, by unfold Hid; rw [hR.out, ← hM.out]⟩
      case round =>
        obtain ⟨k, rfl, hk, hE⟩ := hrel
        by_cases hlt : k < 12
        · have hsz : k < m.size := by omega
          have hb := hA.out k hsz
          have st := hide (marksFrom_step k c hlt)
          generalize [32, 39, 40, 41, 43, 44, 45, 46, 47, 58, 61, 63].getD k 0 = x at hb st
          by_cases he : c = x
          · have hF : Hid (R = true) := by unfold Hid; rw [hE.out, st.out, decide_eq_true he]; rfl
            subst he
            go_wp2
            go_ret
            exact ⟨by rw [hF.out]; rfl, rfl⟩
          · have hF : Hid (R = (marksFrom (k + 1)).contains c) := by unfold Hid; rw [hE.out, st.out, decide_eq_false he]; rfl
            have hq : ((x : Int) == (c : Int)) = false := by simp; omega
            go_wp2
            exact ⟨⟨k + 1, by simp, by omega, hF⟩, by simp [intOf]; omega⟩
        · obtain rfl : k = 12 := by omega
          have hF : Hid (R = false) := hE
          go_wp2
          go_ret
          exact ⟨by rw [hF.out]; rfl, rfl⟩

set_option maxRecDepth 100000 in
set_option maxHeartbeats 2000000 in
theorem refMay_any (k : Int) (s : ByteArray) (hs : s.size ≤ 140737488355328) (w : World) :
    Calls Tryz.prog 81 #[.int .i64 k, .string s] w fun e w' => e = .returned (.bool (mayL k s.data.toList)) ∧ Below w.heap.size w w' := by
  have hl := size_len s
  by_cases h0 : 4096 < s.size
  · have hm : Hid (mayL k s.data.toList = false) := by unfold Hid mayL; rw [if_pos (by omega)]
    have h0' : (4096 : Int) < (s.size : Int) := by omega
    go_enter Tryz.func81, Tryz.ntmps81
    go_wp2
    go_ret
    exact ⟨by rw [hm.out]; rfl, Below.refl _ _⟩
  have h0' : ¬ (4096 : Int) < (s.size : Int) := by omega
  by_cases h1 : k = 12
  · subst h1
    have hm : Hid (mayL 12 s.data.toList = ((validL s.data.toList : Int) == (s.size : Int))) := by
      unfold Hid mayL; rw [if_neg (by omega), if_pos rfl, hl, Bool.eq_iff_iff]; simp; omega
    have hV := hide (fun W => refValid_any s hs W)
    generalize validL s.data.toList = V at hm hV
    go_enter Tryz.func81, Tryz.ntmps81
    go_wp2_with (go_at_call 101; refine (hV.out _).mono ?_; rintro e w2 ⟨rfl, h2⟩; rw [h2])
    go_ret
    exact ⟨by rw [hm.out]; rfl, Below.refl _ _⟩
  by_cases h2 : k = 19
  · subst h2
    have hm : Hid (mayL 19 s.data.toList = s.data.toList.all (fun b => printN b.toNat)) := by unfold Hid mayL; rw [if_neg (by omega), if_neg h1, if_pos rfl]
    go_enter Tryz.func81, Tryz.ntmps81
    go_wp2
    go_loop [5] (fun i => ∃ k : Nat, i = .int .i64 k ∧ k ≤ s.size ∧ Hid (mayL 19 s.data.toList = (s.data.toList.drop k).all (fun b => printN b.toNat))) (fun i => s.size - (intOf i).toNat)
    case atStart => exact ⟨0, rfl, by omega, by unfold Hid; rw [hm.out]; simp⟩
    case round =>
      obtain ⟨k, rfl, hk, hE⟩ := hrel
      by_cases hlt : k < s.size
      · have st := hide (all_step (fun n => printN n) s k hlt)
        have hb := (s[k]'hlt).toNat_lt
        have hP := hide (fun W => prints_any (s[k]'hlt).toNat (by omega) W)
        have hHi := hide (printN_high (s[k]'hlt).toNat)
        have hLo : Hid (printN (s[k]'hlt).toNat = true → (s[k]'hlt).toNat ≤ 127) := fun h => by
          rcases Nat.lt_or_ge (s[k]'hlt).toNat 128 with h2 | h2
          · omega
          · rw [hHi.out h2] at h; cases h
        have hIa : Hid (ia5N (s[k]'hlt).toNat = decide ((s[k]'hlt).toNat < 128)) := rfl
        cases hq : printN (s[k]'hlt).toNat with
        | false =>
          have hF : Hid (mayL 19 s.data.toList = false) := by unfold Hid; rw [hE.out, st.out, hq]; rfl
          try rw [hq] at hP
          try (have hgt : 127 < ((s[k]'hlt).toNat : Int) := by have h := hIa.out; rw [hq] at h; have := of_decide_eq_false h.symm; omega)
          clear hHi hLo st hE hq hIa
          go_wp2_with (go_at_call 102; refine (hP.out _).mono ?_; rintro e w2 ⟨rfl, h2⟩; rw [h2])
          go_ret
          exact ⟨by rw [hF.out]; rfl, Below.refl _ _⟩
        | true =>
          have hF : Hid (mayL 19 s.data.toList = (s.data.toList.drop (k + 1)).all (fun b => printN b.toNat)) := by unfold Hid; rw [hE.out, st.out, hq, Bool.true_and]
          have hle := hLo.out hq
          try rw [hq] at hP
          clear hHi hLo st hE hq hIa
          go_wp2_with (go_at_call 102; refine (hP.out _).mono ?_; rintro e w2 ⟨rfl, h2⟩; rw [h2])
          exact ⟨⟨k + 1, by simp, by omega, hF⟩, by simp [intOf]; omega⟩
      · have hF : Hid (mayL 19 s.data.toList = true) := by unfold Hid; rw [hE.out]; exact all_end (fun n => printN n) s k hlt
        go_wp2
        go_ret
        exact ⟨by rw [hF.out]; rfl, Below.refl _ _⟩
  by_cases h3 : k = 22
  · subst h3
    have hm : Hid (mayL 22 s.data.toList = s.data.toList.all (fun b => ia5N b.toNat)) := by unfold Hid mayL; rw [if_neg (by omega), if_neg h1, if_neg h2, if_pos rfl]
    go_enter Tryz.func81, Tryz.ntmps81
    go_wp2
    go_loop [5] (fun i => ∃ k : Nat, i = .int .i64 k ∧ k ≤ s.size ∧ Hid (mayL 22 s.data.toList = (s.data.toList.drop k).all (fun b => ia5N b.toNat))) (fun i => s.size - (intOf i).toNat)
    case atStart => exact ⟨0, rfl, by omega, by unfold Hid; rw [hm.out]; simp⟩
    case round =>
      obtain ⟨k, rfl, hk, hE⟩ := hrel
      by_cases hlt : k < s.size
      · have st := hide (all_step (fun n => ia5N n) s k hlt)
        have hb := (s[k]'hlt).toNat_lt
        have hP := hide (fun W => prints_any (s[k]'hlt).toNat (by omega) W)
        have hHi := hide (ia5N_high (s[k]'hlt).toNat)
        have hLo : Hid (ia5N (s[k]'hlt).toNat = true → (s[k]'hlt).toNat ≤ 127) := fun h => by
          rcases Nat.lt_or_ge (s[k]'hlt).toNat 128 with h2 | h2
          · omega
          · rw [hHi.out h2] at h; cases h
        have hIa : Hid (ia5N (s[k]'hlt).toNat = decide ((s[k]'hlt).toNat < 128)) := rfl
        cases hq : ia5N (s[k]'hlt).toNat with
        | false =>
          have hF : Hid (mayL 22 s.data.toList = false) := by unfold Hid; rw [hE.out, st.out, hq]; rfl
          try rw [hq] at hP
          try (have hgt : 127 < ((s[k]'hlt).toNat : Int) := by have h := hIa.out; rw [hq] at h; have := of_decide_eq_false h.symm; omega)
          clear hHi hLo st hE hq hIa
          go_wp2_with (go_at_call 102; refine (hP.out _).mono ?_; rintro e w2 ⟨rfl, h2⟩; rw [h2])
          go_ret
          exact ⟨by rw [hF.out]; rfl, Below.refl _ _⟩
        | true =>
          have hF : Hid (mayL 22 s.data.toList = (s.data.toList.drop (k + 1)).all (fun b => ia5N b.toNat)) := by unfold Hid; rw [hE.out, st.out, hq, Bool.true_and]
          have hle := hLo.out hq
          try rw [hq] at hP
          clear hHi hLo st hE hq hIa
          go_wp2_with (go_at_call 102; refine (hP.out _).mono ?_; rintro e w2 ⟨rfl, h2⟩; rw [h2])
          exact ⟨⟨k + 1, by simp, by omega, hF⟩, by simp [intOf]; omega⟩
      · have hF : Hid (mayL 22 s.data.toList = true) := by unfold Hid; rw [hE.out]; exact all_end (fun n => ia5N n) s k hlt
        go_wp2
        go_ret
        exact ⟨by rw [hF.out]; rfl, Below.refl _ _⟩
  · have hm : Hid (mayL k s.data.toList = false) := by unfold Hid mayL; rw [if_neg (by omega), if_neg h1, if_neg h2, if_neg h3]
    have q1 : (k == 12) = false := by simpa using h1
    have q2 : (k == 19) = false := by simpa using h2
    have q3 : (k == 22) = false := by simpa using h3
    have p1 : (k != 12) = true := by simpa using h1
    have p2 : (k != 19) = true := by simpa using h2
    have p3 : (k != 22) = true := by simpa using h3
    clear h1 h2 h3
    go_enter Tryz.func81, Tryz.ntmps81
    go_wp2
    go_ret
    exact ⟨by rw [hm.out]; rfl, Below.refl _ _⟩

set_option maxRecDepth 100000 in
theorem refKind_any (s : ByteArray) (hs : s.size ≤ 140737488355328) (w : World) :
    Calls Tryz.prog 58 #[.string s] w fun e w' => e = .returned (.tuple #[.int .i64 (kindL s.data.toList).1, .int .i64 (kindL s.data.toList).2]) ∧ Below w.heap.size w w' := by
  have m19 := hide (fun W => refMay_any 19 s hs W)
  have m12 := hide (fun W => refMay_any 12 s hs W)
  have hk : Hid (kindL s.data.toList = if mayL 19 s.data.toList = true then (19, 0) else if mayL 12 s.data.toList = true then (12, 0) else (0, 50)) := rfl
  generalize kindL s.data.toList = K at hk ⊢
  generalize mayL 19 s.data.toList = A at hk m19
  generalize mayL 12 s.data.toList = B at hk m12
  cases A with
  | true =>
    obtain rfl : K = (19, 0) := hk.out
    go_enter Tryz.func58, Tryz.ntmps58
    go_wp2_with (go_at_call_of 81 (Value.int .i64 19); refine (m19.out _).mono ?_; rintro e w2 ⟨rfl, h2⟩)
    refine bodyPost_ret (v := .tuple #[.int .i64 19, .int .i64 0]) (by simp [results, Tryz.results58, go_sem]) rfl ⟨rfl, h2⟩
  | false =>
    cases B with
    | true =>
      obtain rfl : K = (12, 0) := hk.out
      go_enter Tryz.func58, Tryz.ntmps58
      go_wp2_with (first | (go_at_call_of 81 (Value.int .i64 19); refine (m19.out _).mono ?_; rintro e w2 ⟨rfl, h2⟩) | (go_at_call_of 81 (Value.int .i64 12); refine (m12.out _).mono ?_; rintro e w3 ⟨rfl, h3⟩))
      refine bodyPost_ret (v := .tuple #[.int .i64 12, .int .i64 0]) (by simp [results, Tryz.results58, go_sem]) rfl ⟨rfl, h2.trans (h3.mono h2.size)⟩
    | false =>
      obtain rfl : K = (0, 50) := hk.out
      go_enter Tryz.func58, Tryz.ntmps58
      go_wp2_with (first | (go_at_call_of 81 (Value.int .i64 19); refine (m19.out _).mono ?_; rintro e w2 ⟨rfl, h2⟩) | (go_at_call_of 81 (Value.int .i64 12); refine (m12.out _).mono ?_; rintro e w3 ⟨rfl, h3⟩))
      refine bodyPost_ret (v := .tuple #[.int .i64 0, .int .i64 50]) (by simp [results, Tryz.results58, go_sem]) rfl ⟨rfl, h2.trans (h3.mono h2.size)⟩

end Go.Proofs.YthnfhkmonfkceaaGreatDoor
