/-
  A name's text is read as that name: the maths. No program.
  The document's Words: the words of a text, as a row.
  The document's Fold: a text as it is compared.
  The document's Alike, Begins and Same of rows of attributes.
-/
import Derived.Test.YtgbbgfjamneioaaDoorXNmRTx
import Derived.Test.YtgbbgfjamneioaaDoorXNmTxtToNmRMay2
import Derived.Test.YtgbbgfjamneioaaDoorXTxW1ToTxF1
import Derived.Test.YtgbbgfjamneioaaDoorXTxTToNmRow
import Derived.Test.YtgbbgfjamneioaaDoorXTxL0ToPut
import Derived.Deep.QuietTactic
import Derived.BigQuiet
namespace Go.Proofs.YtgbbgfjamneioaaDoor
open Go.RowKit Go.IntWalk

/-- The value that stands so in a text. -/
def unmU : List UInt8 → List UInt8
  | [] => []
  | [x] => [x]
  | x :: y :: r => if x = 92 then y :: unmU r else x :: unmU (y :: r)
theorem unm_plain (x : UInt8) (r : List UInt8) (h : x ≠ 92) : unmU (x :: r) = x :: unmU r := by
  cases r with
  | nil => rfl
  | cons y r => rw [unmU, if_neg h]
theorem unm_mark : ∀ v, unmU (markU v) = v
  | [] => rfl
  | x :: r => by
    have ih := unm_mark r
    rw [markU]
    split
    · rw [unmU, if_pos rfl, ih]
    · rename_i h
      have hx : x ≠ 92 := by
        intro e
        subst e
        exact h rfl
      rw [unm_plain x _ hx, ih]

/-- The pieces of a text, of which acc is the beginning of the first. -/
def pcs : List UInt8 → List UInt8 → List (List UInt8)
  | acc, [] => [acc]
  | acc, [x] => if x = 92 then [acc ++ [x]] else if x = 44 then [acc, []] else [acc ++ [x]]
  | acc, x :: y :: r => if x = 92 then pcs (acc ++ [x, y]) r else if x = 44 then acc :: pcs [] (y :: r) else pcs (acc ++ [x]) (y :: r)
theorem pcs_comma (acc r : List UInt8) : pcs acc (44 :: r) = acc :: pcs [] r := by
  cases r with
  | nil => rfl
  | cons y r => rw [pcs]; rfl
theorem pcs_plain (acc : List UInt8) (x : UInt8) (r : List UInt8) (h : x ≠ 92) (h2 : x ≠ 44) : pcs acc (x :: r) = pcs (acc ++ [x]) r := by
  cases r with
  | nil => simp [pcs, h, h2]
  | cons y r => rw [pcs, if_neg h, if_neg h2]
theorem pcs_esc (acc : List UInt8) (y : UInt8) (r : List UInt8) : pcs acc (92 :: y :: r) = pcs (acc ++ [92, y]) r := by
  rw [pcs, if_pos rfl]
theorem pcs_end (acc : List UInt8) : pcs acc [92] = [acc ++ [92]] := rfl
theorem pcs_plains : ∀ (l acc r : List UInt8), (∀ x ∈ l, x ≠ 92 ∧ x ≠ 44) → pcs acc (l ++ r) = pcs (acc ++ l) r
  | [], acc, r, _ => by simp
  | x :: l, acc, r, h => by
    have h1 := h x (by simp)
    rw [List.cons_append, pcs_plain acc x (l ++ r) h1.1 h1.2, pcs_plains l (acc ++ [x]) r (fun y hy => h y (by simp [hy]))]
    simp
theorem pcs_mark : ∀ (v acc r : List UInt8), pcs acc (markU v ++ r) = pcs (acc ++ markU v) r
  | [], acc, r => by simp [markU]
  | x :: v, acc, r => by
    rw [markU]
    split
    · rw [List.cons_append, List.cons_append, pcs_esc, pcs_mark v]
      simp
    · rename_i h
      have hx : x ≠ 92 ∧ x ≠ 44 := by
        constructor <;> (intro e; subst e; exact h rfl)
      rw [List.cons_append, pcs_plain acc x _ hx.1 hx.2, pcs_mark v]
      simp
theorem lab_plain (t : Int) : ∀ x ∈ (labS t).data.toList ++ [61], x ≠ 92 ∧ x ≠ 44 := by
  have key : ∀ L : ByteArray, (L = ⟨#[67, 78]⟩ ∨ L = ⟨#[83, 78]⟩ ∨ L = ⟨#[67]⟩ ∨ L = ⟨#[76]⟩ ∨ L = ⟨#[83, 84]⟩ ∨ L = ⟨#[79]⟩ ∨ L = ⟨#[79, 85]⟩ ∨ L = ⟨#[]⟩) → ∀ x ∈ L.data.toList ++ [61], x ≠ 92 ∧ x ≠ 44 := by
    rintro L (rfl | rfl | rfl | rfl | rfl | rfl | rfl | rfl) <;> decide
  refine key _ ?_
  unfold labS
  (repeat' split) <;> simp
theorem pcs_tld (a : Int × ByteArray) (acc r : List UInt8) : pcs acc (tldU a ++ r) = pcs (acc ++ tldU a) r := by
  obtain ⟨t, s⟩ := a
  rw [tldU_eq, List.append_assoc, pcs_plains _ acc _ (lab_plain t), pcs_mark]
  simp
theorem pcs_join : ∀ (n : List (Int × ByteArray)), n ≠ [] → pcs [] (txU n) = n.map tldU
  | [], h => absurd rfl h
  | [a], _ => by
    unfold txU
    rw [List.map_cons, List.map_nil, Lib.join_one]
    have h := pcs_tld a [] []
    rw [List.append_nil] at h
    rw [h]
    rfl
  | a :: b :: n, _ => by
    have ih := pcs_join (b :: n) (by simp)
    have e : txU (a :: b :: n) = tldU a ++ 44 :: txU (b :: n) := by
      unfold txU
      rw [List.map_cons, Lib.join_cons, List.map_cons, Lib.join_cons]
      unfold Lib.joinTail
      simp
    rw [e, pcs_tld a [] _, pcs_comma, ih]
    rfl

/-- The type that has a label. -/
def typeU (l : List UInt8) : Int :=
  if l = [67, 78] then 3 else if l = [83, 78] then 5 else if l = [67] then 6 else if l = [76] then 7 else if l = [83, 84] then 8 else if l = [79] then 10 else if l = [79, 85] then 11 else 0
theorem type_lab {t : Int} (h : t = 3 ∨ t = 5 ∨ t = 6 ∨ t = 7 ∨ t = 8 ∨ t = 10 ∨ t = 11) : typeU (labS t).data.toList = t := by
  rcases h with rfl | rfl | rfl | rfl | rfl | rfl | rfl <;> decide

/-- A text, cut at the first 61. -/
def cutE : List UInt8 → List UInt8 × List UInt8
  | [] => ([], [])
  | x :: r => if x = 61 then ([], r) else (x :: (cutE r).1, (cutE r).2)
theorem cutE_at : ∀ (l r : List UInt8), (∀ x ∈ l, x ≠ 61) → cutE (l ++ 61 :: r) = (l, r)
  | [], r, _ => rfl
  | x :: l, r, h => by
    have h1 := h x (by simp)
    rw [List.cons_append, cutE, if_neg h1, cutE_at l r (fun y hy => h y (by simp [hy]))]
theorem lab_eq (t : Int) : ∀ x ∈ (labS t).data.toList, x ≠ 61 := by
  have key : ∀ L : ByteArray, (L = ⟨#[67, 78]⟩ ∨ L = ⟨#[83, 78]⟩ ∨ L = ⟨#[67]⟩ ∨ L = ⟨#[76]⟩ ∨ L = ⟨#[83, 84]⟩ ∨ L = ⟨#[79]⟩ ∨ L = ⟨#[79, 85]⟩ ∨ L = ⟨#[]⟩) → ∀ x ∈ L.data.toList, x ≠ 61 := by
    rintro L (rfl | rfl | rfl | rfl | rfl | rfl | rfl | rfl) <;> decide
  refine key _ ?_
  unfold labS
  (repeat' split) <;> simp
/-- What a piece is read as. -/
def prsA (u : List UInt8) : Int × ByteArray := (typeU (cutE u).1, ⟨(unmU (cutE u).2).toArray⟩)
theorem prs_tld {a : Int × ByteArray} (h : attrL a.1 a.2.data.toList = true) : prsA (tldU a) = a := by
  obtain ⟨t, s⟩ := a
  unfold prsA
  rw [tldU_eq]
  have e : (labS t).data.toList ++ [61] ++ markU s.data.toList = (labS t).data.toList ++ 61 :: markU s.data.toList := by simp
  rw [e, cutE_at _ _ (lab_eq t)]
  simp only []
  rw [type_lab (attr_seven h), unm_mark]

/-- What a text is read as. -/
def prsN (s : List UInt8) : List (Int × ByteArray) := ((pcs [] s).map prsA).take 17
theorem prsN_text {n : List (Int × ByteArray)} (h : nameL n = true) (hn : n ≠ []) : prsN (txU n) = n := by
  have h0 := h
  unfold nameL at h
  rw [Bool.and_eq_true] at h
  have hl := of_decide_eq_true h.1
  unfold prsN
  rw [pcs_join n hn, List.map_map]
  have e : n.map (prsA ∘ tldU) = n := by
    have : ∀ x ∈ n, (prsA ∘ tldU) x = x := fun x hx => prs_tld (List.all_eq_true.1 h.2 x hx)
    rw [List.map_congr_left this]
    simp
  rw [e, List.take_of_length_le (by omega)]
def okT (s : ByteArray) (n : List (Int × ByteArray)) : Bool := nameL n && decide (txT n = s)
/-- The name that a text is read as, and the error. -/
def pansN (s : ByteArray) : List (Int × ByteArray) := if s = ⟨#[]⟩ then [] else if okT s (prsN s.data.toList) = true then prsN s.data.toList else []
def pansE (s : ByteArray) : Int := if s = ⟨#[]⟩ then 0 else if okT s (prsN s.data.toList) = true then 0 else 120
theorem tld_ne (a : Int × ByteArray) : tldU a ≠ [] := by
  obtain ⟨t, s⟩ := a
  rw [tldU_eq]
  simp
theorem tx_ne {n : List (Int × ByteArray)} (h : nameL n = true) (hn : n ≠ []) : txT n ≠ ⟨#[]⟩ := by
  intro e
  unfold txT at e
  rw [if_pos h] at e
  have e2 : txU n = [] := by
    have := congrArg (fun b : ByteArray => b.data.toList) e
    simpa using this
  cases n with
  | nil => exact hn rfl
  | cons a r =>
    unfold txU at e2
    rw [List.map_cons, Lib.join_cons] at e2
    exact tld_ne a (List.append_eq_nil_iff.1 e2).1
/-- What a name's text is read as. -/
theorem pans_back {n : List (Int × ByteArray)} (h : nameL n = true) : pansN (txT n) = n ∧ pansE (txT n) = 0 := by
  by_cases hn : n = []
  · subst hn
    have e : txT [] = ⟨#[]⟩ := rfl
    unfold pansN pansE
    rw [e, if_pos rfl, if_pos rfl]
    exact ⟨rfl, rfl⟩
  · have e1 := tx_ne h hn
    have e2 : (txT n).data.toList = txU n := by unfold txT; rw [if_pos h]
    have e3 : okT (txT n) n = true := by unfold okT; rw [h]; simp
    unfold pansN pansE
    rw [if_neg e1, if_neg e1, e2, prsN_text h hn, if_pos e3, if_pos e3]
    exact ⟨rfl, rfl⟩
theorem pans_ok {s : ByteArray} (h : pansE s = 0) : nameL (pansN s) = true ∧ txT (pansN s) = s := by
  unfold pansE at h
  unfold pansN
  by_cases hs : s = ⟨#[]⟩
  · rw [if_pos hs]
    subst hs
    exact ⟨rfl, rfl⟩
  · rw [if_neg hs] at h ⊢
    by_cases hk : okT s (prsN s.data.toList) = true
    · rw [if_pos hk]
      unfold okT at hk
      rw [Bool.and_eq_true] at hk
      exact ⟨hk.1, of_decide_eq_true hk.2⟩
    · rw [if_neg hk] at h
      cases h

end Go.Proofs.YtgbbgfjamneioaaDoor

namespace Go.Proofs.YtgbbgfjamneioaaDoor
open Go.RowKit Go.IntWalk

/-- Words as texts. -/
def texts (ws : List (List UInt8)) : List ByteArray := ws.map (fun u => ⟨u.toArray⟩)

/-- What has been told of the words, and what is left. -/
def WRel (l : List UInt8) (ws : List (List UInt8)) (a k : Nat) : Prop := (k ≤ l.length → wordsL l = ws ++ wordsG (cutL l a k) (l.drop k)) ∧ (l.length < k → wordsL l = ws)

theorem wrel_start (l : List UInt8) : WRel l [] 0 0 := ⟨fun _ => words_begin l, fun h => by omega⟩

theorem wrel_end (l : List UInt8) (ws : List (List UInt8)) (a k : Nat) (h : WRel l ws a k) (hk : l.length < k) : wordsL l = ws := h.2 hk

theorem wrel_step (l : List UInt8) (ws : List (List UInt8)) (a k : Nat) (h : WRel l ws a k) (hak : a ≤ k) (hk : k < l.length) (hb : l[k]'hk ≠ 32) : WRel l ws a (k + 1) := by
  refine ⟨fun _ => ?_, fun h => by omega⟩
  rw [h.1 (by omega), words_step l a k 1 hak (by omega) ?_]
  intro b hb2
  have e : (l.drop k).take 1 = [l[k]'hk] := by rw [List.drop_eq_getElem_cons hk]; rfl
  rw [e] at hb2
  have hb3 := List.mem_singleton.1 hb2
  subst hb3
  exact hb

theorem wrel_empty (l : List UInt8) (ws : List (List UInt8)) (a k : Nat) (h : WRel l ws a k) (hk : k ≤ l.length) (e : a = k) (hs : k = l.length ∨ ∃ h : k < l.length, l[k]'h = 32) : WRel l ws (k + 1) (k + 1) := by
  subst e
  rcases hs with hs | ⟨hlt, hs⟩
  · subst hs
    refine ⟨fun h => by omega, fun _ => ?_⟩
    rw [h.1 (Nat.le_refl _), words_end l _ (Nat.le_refl _), if_pos rfl, List.append_nil]
  · refine ⟨fun _ => ?_, fun h => by omega⟩
    rw [h.1 hk, words_blank l a a hlt hs (Nat.le_refl _), if_pos rfl]

theorem wrel_word (l : List UInt8) (ws : List (List UInt8)) (a k : Nat) (h : WRel l ws a k) (hk : k ≤ l.length) (e : a < k) (hs : k = l.length ∨ ∃ h : k < l.length, l[k]'h = 32) : WRel l (ws ++ [cutL l a k]) (k + 1) (k + 1) := by
  rcases hs with hs | ⟨hlt, hs⟩
  · subst hs
    refine ⟨fun h => by omega, fun _ => ?_⟩
    rw [h.1 (Nat.le_refl _), words_end l _ (by omega), if_neg (by omega)]
  · refine ⟨fun _ => ?_, fun h => by omega⟩
    rw [h.1 hk, words_blank l a k hlt hs (by omega), if_neg (by omega), List.append_assoc]
    rfl

theorem stop_list (s : ByteArray) (k : Nat) (h : k = s.size ∨ ∃ h : k < s.size, (s[k]'h) = 32) : k = s.data.toList.length ∨ ∃ h : k < s.data.toList.length, s.data.toList[k]'h = 32 := by
  rcases h with h | ⟨h, e⟩
  · left; rw [size_len]; exact h
  · right; exact ⟨by rw [size_len]; exact h, by rw [get_list s k h]; exact e⟩

theorem texts_more (ws : List (List UInt8)) (u : List UInt8) : texts (ws ++ [u]) = texts ws ++ [⟨u.toArray⟩] := by simp [texts]

end Go.Proofs.YtgbbgfjamneioaaDoor

namespace Go.Proofs.YtgbbgfjamneioaaDoor
open Go.RowKit Go.IntWalk
attribute [local go_sem ↓] appOf_of

end Go.Proofs.YtgbbgfjamneioaaDoor

namespace Go.Proofs.YtgbbgfjamneioaaDoor
open Go.RowKit Go.IntWalk Go.Shelf

theorem bs_ne {a b : ByteArray} (h : a ≠ b) : (a.toList == b.toList) = false := by
  rw [beq_eq_false_iff_ne, ByteArray.toList_eq, ByteArray.toList_eq]
  intro e
  exact h (ByteArray.ext (Array.ext' e))

theorem at_all {A B : List (Int × ByteArray)} (hl : A.length = B.length) (h : ∀ j, j < A.length → A[j]? = B[j]?) : A = B := by
  apply List.ext_getElem? 
  intro j
  by_cases hj : j < A.length
  · exact h j hj
  · rw [List.getElem?_eq_none (by omega), List.getElem?_eq_none (by omega)]
theorem at_key {xs : List (Int × ByteArray)} {i : Nat} (h : i < xs.length) : xs[i]? = some (xs.getD i (0, ByteArray.empty)) := by
  simp [h, List.getD]

set_option maxRecDepth 100000 in
set_option maxHeartbeats 2000000 in
theorem ralike_any (aa : Option Addr) (na ca : Nat) (xs : List (Int × ByteArray)) (ab : Option Addr) (nb cb : Nat) (ys : List (Int × ByteArray)) (w : World) (hA : Ats w aa na ca xs) (hB : Ats w ab nb cb ys) :
    Calls Tryd.prog 35 #[.slice aa na ca, .slice ab nb cb] w fun e w' => e = .returned (.bool (decide (xs = ys))) ∧ Below w.heap.size w w' := by
  have a1 := hA.hcap
  have a2 := hA.hmax
  have b1 := hB.hcap
  have b2 := hB.hmax
  unfold maxLen at a2 b2
  have na1 : (na : Int) ≤ 9223372036854775807 := by omega
  have nb1 : (nb : Int) ≤ 9223372036854775807 := by omega
  have hla := hA.hl
  have hlb := hB.hl
  by_cases hn : na = nb
  · subst hn
    have HA := hide hA
    have HB := hide hB
    have HLA := hide hla
    have HLB := hide hlb
    have hnn : ((na : Int) != (na : Int)) = false := by simp
    clear hA hB a1 a2 b1 b2 hla hlb
    go_enter Tryd.func35, Tryd.ntmps35
    go_wp2
    go_loopw [5] (fun v wr => ∃ i : Nat, i ≤ na ∧ v = .int .i64 i ∧ Below w.heap.size w wr ∧ Hid (∀ j, j < i → xs[j]? = ys[j]?)) (fun v _ => na - (intOf v).toNat)
    case atStart => exact ⟨0, Nat.zero_le _, rfl, Below.refl _ _, fun j hj => absurd hj (by omega)⟩
    case round =>
      obtain ⟨i, hi, rfl, hQ, hE⟩ := hrel
      by_cases hik : i < na
      · obtain ⟨b, off, rfl, hc⟩ := (HA.out.below hQ).hrd (by omega)
        obtain ⟨b', off', rfl, hc'⟩ := (HB.out.below hQ).hrd (by omega)
        obtain ⟨c0, c1⟩ := hc i (by omega)
        obtain ⟨d0, d1⟩ := hc' i (by omega)
        have kx := hide (at_key (xs := xs) (i := i) (by rw [HLA.out]; omega))
        have ky := hide (at_key (xs := ys) (i := i) (by rw [HLB.out]; omega))
        generalize xs.getD i (0, ByteArray.empty) = X at c0 c1 kx
        generalize ys.getD i (0, ByteArray.empty) = Y at d0 d1 ky
        obtain ⟨tx, sx⟩ := X
        obtain ⟨ty, sy⟩ := Y
        simp only [] at c0 c1 d0 d1
        clear hc hc'
        have jk : (i : Int) < (na : Int) := by omega
        have hD := hQ.drew
        by_cases he : tx = ty ∧ sx = sy
        · obtain ⟨rfl, rfl⟩ := he
          have hE' : Hid (∀ j, j < i + 1 → xs[j]? = ys[j]?) := fun j hj => by
            by_cases h : j < i
            · exact hE.out j h
            · obtain rfl : j = i := by omega
              rw [kx.out, ky.out]
          have e1 : (tx != tx) = false := by simp
          have e2 : (sx.toList == sx.toList) = true := by simp
          go_wp2_with fail
          go_region_held3 (fun W => W.cell? ⟨b, off + i * 2, none⟩ = some (.int .i64 tx) ∧ W.cell? ⟨b, off + i * 2 + 1, none⟩ = some (.string sx) ∧ W.cell? ⟨b', off' + i * 2, none⟩ = some (.int .i64 tx) ∧ W.cell? ⟨b', off' + i * 2 + 1, none⟩ = some (.string sx)) (go_keep) (fail)
          all_goals
            go_wp2
            go_roundw
            case rel => exact ⟨i + 1, by omega, by go_num, hD, hE'⟩
            case measure => simp [intOf]; omega
        · have hne : Hid (decide (xs = ys) = false) := by
            unfold Hid
            rw [decide_eq_false_iff_not]
            intro h
            subst h
            have h9 := kx.out.symm.trans ky.out
            simp at h9
            exact he h9
          have hx : tx ≠ ty ∨ (tx = ty ∧ sx ≠ sy) := by
            by_cases h : tx = ty
            · exact .inr ⟨h, fun h2 => he ⟨h, h2⟩⟩
            · exact .inl h
          clear he
          rcases hx with h1 | ⟨rfl, h2⟩
          · have e1 : (tx != ty) = true := by simpa using h1
            go_wp2_with fail
            go_quiet (fail)
            go_wp2
            try simp only [Exit.noGoto_ret]
            go_ret
            exact ⟨by rw [hne.out]; rfl, by exact ⟨hQ.os, hQ.tape, hQ.output, hQ.size, hQ.block⟩⟩
          · have e1 : (tx != tx) = false := by simp
            have e2 := bs_ne h2
            go_wp2_with fail
            go_region_held3 (fun W => W.cell? ⟨b, off + i * 2, none⟩ = some (.int .i64 tx) ∧ W.cell? ⟨b, off + i * 2 + 1, none⟩ = some (.string sx) ∧ W.cell? ⟨b', off' + i * 2, none⟩ = some (.int .i64 tx) ∧ W.cell? ⟨b', off' + i * 2 + 1, none⟩ = some (.string sy)) (go_keep) (fail)
            all_goals
              go_wp2
              try simp only [Exit.noGoto_ret]
              go_ret
              exact ⟨by rw [hne.out]; rfl, hD⟩
      · obtain rfl : i = na := by omega
        have jk : ¬ (i : Int) < (i : Int) := by omega
        have hyes : Hid (decide (xs = ys) = true) := by
          unfold Hid
          rw [decide_eq_true_iff]
          exact at_all (by rw [HLA.out, HLB.out]) (fun j hj => hE.out j (by rw [HLA.out] at hj; exact hj))
        go_wp2
        try simp only [Exit.noGoto_ret]
        go_ret
        exact ⟨by rw [hyes.out]; rfl, hQ⟩
  · have hne : Hid (decide (xs = ys) = false) := by
      unfold Hid
      rw [decide_eq_false_iff_not]
      intro h
      subst h
      omega
    have hnn : ((na : Int) != (nb : Int)) = true := by simpa using (show ¬ (na : Int) = (nb : Int) by omega)
    clear hla hlb a1 a2 b1 b2 hA hB
    go_enter Tryd.func35, Tryd.ntmps35
    go_wp2
    try simp only [Exit.noGoto_ret]
    go_ret
    exact ⟨by rw [hne.out]; rfl, Below.refl _ _⟩

end Go.Proofs.YtgbbgfjamneioaaDoor
