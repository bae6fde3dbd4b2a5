/-
  A name's text is read as that name: the maths. No program.
  name.unmarked, name.typeOf, name.parsed.
-/
import Derived.Test.YtgbbgfjamneioaaDoorXNmRTx
import Derived.Deep.MidRow
import Derived.Test.YtgbbgfjamneioaaDoorXHoMToNmTxt
import Derived.Test.YtgbbgfjamneioaaDoorXNmLentToNmRPut
namespace Go.Proofs.YtgbbgfjamneioaaDoor
open Go.RowKit Go.IntWalk

/-- The value that stands so in a text. -/
def unmU : List UInt8 → List UInt8
  | [] => []
  | [x] => [x]
  | x :: y :: r => if x = 92 then y :: unmU r else x :: unmU (y :: r)
theorem unm_plain (x : UInt8) (r : List UInt8) (h : x ≠ 92) : unmU (x :: r) = x :: unmU r := by
  cases r with
  | nil => rfl
  | cons y r => rw [unmU, if_neg h]
theorem unm_mark : ∀ v, unmU (markU v) = v
  | [] => rfl
  | x :: r => by
    have ih := unm_mark r
    rw [markU]
    split
    · rw [unmU, if_pos rfl, ih]
    · rename_i h
      have hx : x ≠ 92 := by
        intro e
        subst e
        exact h rfl
      rw [unm_plain x _ hx, ih]

/-- The pieces of a text, of which acc is the beginning of the first. -/
def pcs : List UInt8 → List UInt8 → List (List UInt8)
  | acc, [] => [acc]
  | acc, [x] => if x = 92 then [acc ++ [x]] else if x = 44 then [acc, []] else [acc ++ [x]]
  | acc, x :: y :: r => if x = 92 then pcs (acc ++ [x, y]) r else if x = 44 then acc :: pcs [] (y :: r) else pcs (acc ++ [x]) (y :: r)
theorem pcs_comma (acc r : List UInt8) : pcs acc (44 :: r) = acc :: pcs [] r := by
  cases r with
  | nil => rfl
  | cons y r => rw [pcs]; rfl
theorem pcs_plain (acc : List UInt8) (x : UInt8) (r : List UInt8) (h : x ≠ 92) (h2 : x ≠ 44) : pcs acc (x :: r) = pcs (acc ++ [x]) r := by
  cases r with
  | nil => simp [pcs, h, h2]
  | cons y r => rw [pcs, if_neg h, if_neg h2]
theorem pcs_esc (acc : List UInt8) (y : UInt8) (r : List UInt8) : pcs acc (92 :: y :: r) = pcs (acc ++ [92, y]) r := by
  rw [pcs, if_pos rfl]
theorem pcs_end (acc : List UInt8) : pcs acc [92] = [acc ++ [92]] := rfl
theorem pcs_plains : ∀ (l acc r : List UInt8), (∀ x ∈ l, x ≠ 92 ∧ x ≠ 44) → pcs acc (l ++ r) = pcs (acc ++ l) r
  | [], acc, r, _ => by simp
  | x :: l, acc, r, h => by
    have h1 := h x (by simp)
    rw [List.cons_append, pcs_plain acc x (l ++ r) h1.1 h1.2, pcs_plains l (acc ++ [x]) r (fun y hy => h y (by simp [hy]))]
    simp
theorem pcs_mark : ∀ (v acc r : List UInt8), pcs acc (markU v ++ r) = pcs (acc ++ markU v) r
  | [], acc, r => by simp [markU]
  | x :: v, acc, r => by
    rw [markU]
    split
    · rw [List.cons_append, List.cons_append, pcs_esc, pcs_mark v]
      simp
    · rename_i h
      have hx : x ≠ 92 ∧ x ≠ 44 := by
        constructor <;> (intro e; subst e; exact h rfl)
      rw [List.cons_append, pcs_plain acc x _ hx.1 hx.2, pcs_mark v]
      simp
theorem lab_plain (t : Int) : ∀ x ∈ (labS t).data.toList ++ [61], x ≠ 92 ∧ x ≠ 44 := by
  have key : ∀ L : ByteArray, (L = ⟨#[67, 78]⟩ ∨ L = ⟨#[83, 78]⟩ ∨ L = ⟨#[67]⟩ ∨ L = ⟨#[76]⟩ ∨ L = ⟨#[83, 84]⟩ ∨ L = ⟨#[79]⟩ ∨ L = ⟨#[79, 85]⟩ ∨ L = ⟨#[]⟩) → ∀ x ∈ L.data.toList ++ [61], x ≠ 92 ∧ x ≠ 44 := by
    rintro L (rfl | rfl | rfl | rfl | rfl | rfl | rfl | rfl) <;> decide
  refine key _ ?_
  unfold labS
  (repeat' split) <;> simp
theorem pcs_tld (a : Int × ByteArray) (acc r : List UInt8) : pcs acc (tldU a ++ r) = pcs (acc ++ tldU a) r := by
  obtain ⟨t, s⟩ := a
  rw [tldU_eq, List.append_assoc, pcs_plains _ acc _ (lab_plain t), pcs_mark]
  simp
theorem pcs_join : ∀ (n : List (Int × ByteArray)), n ≠ [] → pcs [] (txU n) = n.map tldU
  | [], h => absurd rfl h
  | [a], _ => by
    unfold txU
    rw [List.map_cons, List.map_nil, Lib.join_one]
    have h := pcs_tld a [] []
    rw [List.append_nil] at h
    rw [h]
    rfl
  | a :: b :: n, _ => by
    have ih := pcs_join (b :: n) (by simp)
    have e : txU (a :: b :: n) = tldU a ++ 44 :: txU (b :: n) := by
      unfold txU
      rw [List.map_cons, Lib.join_cons, List.map_cons, Lib.join_cons]
      unfold Lib.joinTail
      simp
    rw [e, pcs_tld a [] _, pcs_comma, ih]
    rfl

/-- The type that has a label. -/
def typeU (l : List UInt8) : Int :=
  if l = [67, 78] then 3 else if l = [83, 78] then 5 else if l = [67] then 6 else if l = [76] then 7 else if l = [83, 84] then 8 else if l = [79] then 10 else if l = [79, 85] then 11 else 0
theorem type_lab {t : Int} (h : t = 3 ∨ t = 5 ∨ t = 6 ∨ t = 7 ∨ t = 8 ∨ t = 10 ∨ t = 11) : typeU (labS t).data.toList = t := by
  rcases h with rfl | rfl | rfl | rfl | rfl | rfl | rfl <;> decide

/-- A text, cut at the first 61. -/
def cutE : List UInt8 → List UInt8 × List UInt8
  | [] => ([], [])
  | x :: r => if x = 61 then ([], r) else (x :: (cutE r).1, (cutE r).2)
theorem cutE_at : ∀ (l r : List UInt8), (∀ x ∈ l, x ≠ 61) → cutE (l ++ 61 :: r) = (l, r)
  | [], r, _ => rfl
  | x :: l, r, h => by
    have h1 := h x (by simp)
    rw [List.cons_append, cutE, if_neg h1, cutE_at l r (fun y hy => h y (by simp [hy]))]
theorem lab_eq (t : Int) : ∀ x ∈ (labS t).data.toList, x ≠ 61 := by
  have key : ∀ L : ByteArray, (L = ⟨#[67, 78]⟩ ∨ L = ⟨#[83, 78]⟩ ∨ L = ⟨#[67]⟩ ∨ L = ⟨#[76]⟩ ∨ L = ⟨#[83, 84]⟩ ∨ L = ⟨#[79]⟩ ∨ L = ⟨#[79, 85]⟩ ∨ L = ⟨#[]⟩) → ∀ x ∈ L.data.toList, x ≠ 61 := by
    rintro L (rfl | rfl | rfl | rfl | rfl | rfl | rfl | rfl) <;> decide
  refine key _ ?_
  unfold labS
  (repeat' split) <;> simp
/-- What a piece is read as. -/
def prsA (u : List UInt8) : Int × ByteArray := (typeU (cutE u).1, ⟨(unmU (cutE u).2).toArray⟩)
theorem prs_tld {a : Int × ByteArray} (h : attrL a.1 a.2.data.toList = true) : prsA (tldU a) = a := by
  obtain ⟨t, s⟩ := a
  unfold prsA
  rw [tldU_eq]
  have e : (labS t).data.toList ++ [61] ++ markU s.data.toList = (labS t).data.toList ++ 61 :: markU s.data.toList := by simp
  rw [e, cutE_at _ _ (lab_eq t)]
  simp only []
  rw [type_lab (attr_seven h), unm_mark]

/-- What a text is read as. -/
def prsN (s : List UInt8) : List (Int × ByteArray) := ((pcs [] s).map prsA).take 17
theorem prsN_text {n : List (Int × ByteArray)} (h : nameL n = true) (hn : n ≠ []) : prsN (txU n) = n := by
  have h0 := h
  unfold nameL at h
  rw [Bool.and_eq_true] at h
  have hl := of_decide_eq_true h.1
  unfold prsN
  rw [pcs_join n hn, List.map_map]
  have e : n.map (prsA ∘ tldU) = n := by
    have : ∀ x ∈ n, (prsA ∘ tldU) x = x := fun x hx => prs_tld (List.all_eq_true.1 h.2 x hx)
    rw [List.map_congr_left this]
    simp
  rw [e, List.take_of_length_le (by omega)]
def okT (s : ByteArray) (n : List (Int × ByteArray)) : Bool := nameL n && decide (txT n = s)
/-- The name that a text is read as, and the error. -/
def pansN (s : ByteArray) : List (Int × ByteArray) := if s = ⟨#[]⟩ then [] else if okT s (prsN s.data.toList) = true then prsN s.data.toList else []
def pansE (s : ByteArray) : Int := if s = ⟨#[]⟩ then 0 else if okT s (prsN s.data.toList) = true then 0 else 120
theorem tld_ne (a : Int × ByteArray) : tldU a ≠ [] := by
  obtain ⟨t, s⟩ := a
  rw [tldU_eq]
  simp
theorem tx_ne {n : List (Int × ByteArray)} (h : nameL n = true) (hn : n ≠ []) : txT n ≠ ⟨#[]⟩ := by
  intro e
  unfold txT at e
  rw [if_pos h] at e
  have e2 : txU n = [] := by
    have := congrArg (fun b : ByteArray => b.data.toList) e
    simpa using this
  cases n with
  | nil => exact hn rfl
  | cons a r =>
    unfold txU at e2
    rw [List.map_cons, Lib.join_cons] at e2
    exact tld_ne a (List.append_eq_nil_iff.1 e2).1
/-- What a name's text is read as. -/
theorem pans_back {n : List (Int × ByteArray)} (h : nameL n = true) : pansN (txT n) = n ∧ pansE (txT n) = 0 := by
  by_cases hn : n = []
  · subst hn
    have e : txT [] = ⟨#[]⟩ := rfl
    unfold pansN pansE
    rw [e, if_pos rfl, if_pos rfl]
    exact ⟨rfl, rfl⟩
  · have e1 := tx_ne h hn
    have e2 : (txT n).data.toList = txU n := by unfold txT; rw [if_pos h]
    have e3 : okT (txT n) n = true := by unfold okT; rw [h]; simp
    unfold pansN pansE
    rw [if_neg e1, if_neg e1, e2, prsN_text h hn, if_pos e3, if_pos e3]
    exact ⟨rfl, rfl⟩
theorem pans_ok {s : ByteArray} (h : pansE s = 0) : nameL (pansN s) = true ∧ txT (pansN s) = s := by
  unfold pansE at h
  unfold pansN
  by_cases hs : s = ⟨#[]⟩
  · rw [if_pos hs]
    subst hs
    exact ⟨rfl, rfl⟩
  · rw [if_neg hs] at h ⊢
    by_cases hk : okT s (prsN s.data.toList) = true
    · rw [if_pos hk]
      unfold okT at hk
      rw [Bool.and_eq_true] at hk
      exact ⟨hk.1, of_decide_eq_true hk.2⟩
    · rw [if_neg hk] at h
      cases h

end Go.Proofs.YtgbbgfjamneioaaDoor

namespace Go.Proofs.YtgbbgfjamneioaaDoor
open Go.RowKit Go.IntWalk Go.Shelf

theorem unm_len : ∀ l : List UInt8, (unmU l).length ≤ l.length
  | [] => Nat.le_refl _
  | [x] => Nat.le_refl _
  | x :: y :: r => by
    rw [unmU]
    split
    · have := unm_len r; simp only [List.length_cons]; omega
    · have := unm_len (y :: r); simp only [List.length_cons] at *; omega
theorem drop_one (l : List UInt8) (k : Nat) (h : k < l.length) : l.drop k = l.getD k 0 :: l.drop (k + 1) := by
  rw [List.drop_eq_getElem_cons h]
  simp [List.getD, List.getElem?_eq_getElem h]

set_option maxRecDepth 100000 in
set_option maxHeartbeats 2000000 in
theorem unmarked_any (s : ByteArray) (hs : s.size ≤ 1048576) (w : World) :
    Calls Tryd.prog 60 #[.string s] w fun e w' => e = .returned (.string ⟨(unmU s.data.toList).toArray⟩) ∧ Below w.heap.size w w' := by
  obtain ⟨i0, hi, hz0, hz1, hz2⟩ := info_parts Tryd.infoB
  obtain ⟨wm, hmk, hown, hgm⟩ := run_make_own (P := Tryd.prog) (w := w) w.heap.size 25 5 i0 (.int .u8 0) 1 Tryd.underlying25 hi hz0 hz1 .i64 .i64 s.size (by rw [hz2]; omega) (by unfold maxLen; omega) (Nat.le_refl _)
  clear hi hz0 hz1 hz2 i0
  have HO : Hid (OwnB wm w.heap.size (.slice (some ⟨w.heap.size, 0, none⟩) 0 s.size) (nums [])) := hown
  have HG := hide (below_of_grown hgm)
  have hsl : Hid (s.data.toList.length = s.size) := bs_len s
  clear hown hgm
  have hsI : (s.size : Int) ≤ 1048576 := by omega
  obtain ⟨U, hU⟩ : ∃ U, unmU s.data.toList = U := ⟨_, rfl⟩
  rw [hU]
  have HU := hide hU
  clear hU
  go_enter Tryd.func60, Tryd.ntmps60
  go_wp2
  go_loopw [3, 4] (fun v i wr => ∃ (k g m c : Nat) (M : List UInt8), v = .slice (some ⟨g, 0, none⟩) m c ∧ i = .int .i64 k ∧ k ≤ s.size ∧ m ≤ k ∧ Hid (OwnB wr w.heap.size (.slice (some ⟨g, 0, none⟩) m c) (nums M)) ∧ Hid (M ++ unmU (s.data.toList.drop k) = U) ∧ Below w.heap.size w wr) (fun _ i _ => s.size - (intOf i).toNat)
  case atStart => exact ⟨0, w.heap.size, 0, s.size, [], rfl, rfl, Nat.zero_le _, Nat.le_refl _, HO, by unfold Hid; simpa using HU.out, HG.out⟩
  case round =>
    obtain ⟨k, g, m, c, M0, rfl, rfl, hk, hm, hO, hE, hB⟩ := hrel
    have hBs := hB.size
    by_cases hlt : k < s.size
    · have ltI : (k : Int) < (s.size : Int) := by omega
      have hdr := drop_one s.data.toList k (by rw [hsl.out]; exact hlt)
      obtain ⟨x, hx⟩ : ∃ x, (s[k]'hlt) = x := ⟨_, rfl⟩
      have hxd : s.data.toList.getD k 0 = x := by rw [← get_bs s k hlt]; exact hx
      rw [hxd] at hdr
      have hxI : ((s[k]'hlt).toNat : Int) = (x.toNat : Int) := by rw [hx]
      have hx256 := x.toNat_lt
      have hlen := OwnB.eqlen hO.out
      obtain ⟨M, hM⟩ : ∃ M, nums M0 = M := ⟨_, rfl⟩
      rw [hM] at hO hlen
      have HM := hide hM
      have HLN := hide hlen
      by_cases hsp : x = 92 ∧ k + 1 < s.size
      · obtain ⟨hx92, hk1⟩ := hsp
        have c1 : ((x.toNat : Int) == 92) = true := by subst hx92; rfl
        have c2 : (k : Int) + 1 < (s.size : Int) := by omega
        have hdr2 := drop_one s.data.toList (k + 1) (by rw [hsl.out]; exact hk1)
        obtain ⟨z, hz⟩ : ∃ z, (s[k + 1]'hk1) = z := ⟨_, rfl⟩
        have hzd : s.data.toList.getD (k + 1) 0 = z := by rw [← get_bs s (k + 1) hk1]; exact hz
        rw [hzd] at hdr2
        have hzI : ((s[k + 1]'hk1).toNat : Int) = (z.toNat : Int) := by rw [hz]
        have hz256 := z.toNat_lt
        have hE2 : Hid ((M0 ++ [z]) ++ unmU (s.data.toList.drop (k + 2)) = U) := by
          unfold Hid
          have h := hE.out
          rw [hdr, hdr2, unmU, if_pos hx92] at h
          rw [← h]
          simp
        obtain ⟨y, hy⟩ : ∃ y : Int, (z.toNat : Int) = y := ⟨_, rfl⟩
        rw [hy] at hzI
        obtain ⟨y1, hy1⟩ : ∃ y : Int, (x.toNat : Int) = y := ⟨_, rfl⟩
        rw [hy1] at hxI c1
        have hy0 : 0 ≤ y ∧ y < 256 := by omega
        have HN : Hid (nums (M0 ++ [z]) = M ++ [y]) := by unfold Hid; rw [nums_app, HM.out, ← hy]; rfl
        clear hdr hdr2 hz hzd hy hx hxd hy1 hM hlen hx92
        go_wp2_with (at_builtin; refine wpList_appN _ rfl (.tmp 27) (.tmp 31) rfl w.heap.size (.slice (some ⟨g, 0, none⟩) m c) M rfl (hO.out.alloc _) (some ⟨wr.heap.size, 0, none⟩) 1 1 [y] rfl (Src.lit [y] _ 1 rfl rfl (by simp; exact hy0) (by decide)) (m + 1) (by rw [List.length_append, ← HLN.out]; rfl) (.inr (by simp)) (by omega) (by simp; omega) ?_; intro g4 c4 w4 ho4 hb4 hl4 hc4 hm4 hg4)
        have hB4 : Below w.heap.size w w4 := (hB.alloc (by omega) _).grown hg4 (by simp; omega) (by intro q hq; cases hq; exact (OwnB.lt hO.out g rfl).1)
        go_roundw
        case rel => exact ⟨k + 2, g4, m + 1, c4, M0 ++ [z], rfl, by go_num, by omega, by omega, by rw [HN.out]; exact ho4, hE2, hB4⟩
        case measure => simp [intOf]; omega
      · have hE2 : Hid ((M0 ++ [x]) ++ unmU (s.data.toList.drop (k + 1)) = U) := by
          unfold Hid
          have h := hE.out
          rw [hdr] at h
          by_cases hx92 : x = 92
          · have hk1 : s.size ≤ k + 1 := by
              rcases Nat.lt_or_ge (k + 1) s.size with h' | h'
              · exact absurd ⟨hx92, h'⟩ hsp
              · exact h'
            have e : s.data.toList.drop (k + 1) = [] := List.drop_eq_nil_of_le (by rw [hsl.out]; exact hk1)
            rw [e] at h ⊢
            rw [← h]
            simp [unmU]
          · rw [unm_plain x _ hx92] at h
            rw [← h]
            simp
        have hc : ((x.toNat : Int) == 92) = false ∨ (((x.toNat : Int) == 92) = true ∧ ¬ ((k : Int) + 1 < (s.size : Int))) := by
          by_cases hx92 : x = 92
          · right
            refine ⟨by subst hx92; rfl, fun h => hsp ⟨hx92, by omega⟩⟩
          · left
            refine beq_eq_false_iff_ne.2 (fun e => hx92 ?_)
            apply UInt8.toNat_inj.1
            show x.toNat = 92
            omega
        obtain ⟨y, hy⟩ : ∃ y : Int, (x.toNat : Int) = y := ⟨_, rfl⟩
        rw [hy] at hxI hc
        have hy0 : 0 ≤ y ∧ y < 256 := by omega
        have HN : Hid (nums (M0 ++ [x]) = M ++ [y]) := by unfold Hid; rw [nums_app, HM.out, ← hy]; rfl
        clear hdr hy hx hxd hM hlen hsp
        rcases hc with c1 | ⟨c1, c2⟩
        · go_wp2_with (at_builtin; refine wpList_appN _ rfl (.tmp 27) (.tmp 31) rfl w.heap.size (.slice (some ⟨g, 0, none⟩) m c) M rfl (hO.out.alloc _) (some ⟨wr.heap.size, 0, none⟩) 1 1 [y] rfl (Src.lit [y] _ 1 rfl rfl (by simp; exact hy0) (by decide)) (m + 1) (by rw [List.length_append, ← HLN.out]; rfl) (.inr (by simp)) (by omega) (by simp; omega) ?_; intro g4 c4 w4 ho4 hb4 hl4 hc4 hm4 hg4)
          have hB4 : Below w.heap.size w w4 := (hB.alloc (by omega) _).grown hg4 (by simp; omega) (by intro q hq; cases hq; exact (OwnB.lt hO.out g rfl).1)
          go_roundw
          case rel => exact ⟨k + 1, g4, m + 1, c4, M0 ++ [x], rfl, by go_num, by omega, by omega, by rw [HN.out]; exact ho4, hE2, hB4⟩
          case measure => simp [intOf]; omega
        · go_wp2_with (at_builtin; refine wpList_appN _ rfl (.tmp 27) (.tmp 31) rfl w.heap.size (.slice (some ⟨g, 0, none⟩) m c) M rfl (hO.out.alloc _) (some ⟨wr.heap.size, 0, none⟩) 1 1 [y] rfl (Src.lit [y] _ 1 rfl rfl (by simp; exact hy0) (by decide)) (m + 1) (by rw [List.length_append, ← HLN.out]; rfl) (.inr (by simp)) (by omega) (by simp; omega) ?_; intro g4 c4 w4 ho4 hb4 hl4 hc4 hm4 hg4)
          have hB4 : Below w.heap.size w w4 := (hB.alloc (by omega) _).grown hg4 (by simp; omega) (by intro q hq; cases hq; exact (OwnB.lt hO.out g rfl).1)
          go_roundw
          case rel => exact ⟨k + 1, g4, m + 1, c4, M0 ++ [x], rfl, by go_num, by omega, by omega, by rw [HN.out]; exact ho4, hE2, hB4⟩
          case measure => simp [intOf]; omega
    · obtain rfl : k = s.size := by omega
      have nI : ¬ ((s.size : Int) < (s.size : Int)) := by omega
      have hall : s.data.toList.drop s.size = [] := List.drop_eq_nil_of_le (by rw [hsl.out]; exact Nat.le_refl _)
      have hMU : M0 = U := by have h := hE.out; rw [hall] at h; simpa [unmU] using h
      subst hMU
      have ht := (OwnB.toSrc hO.out (nums_byte _)).text
      rw [nums_text] at ht
      clear hall
      go_wp2
      go_ret
      exact ⟨rfl, hB⟩

def ldT (t : TypeId) (v : Value) : Sem Value := Instr.loadAt t v
theorem ld_lab (v : Value) : Instr.loadAt 86 v = ldT 86 v := rfl
attribute [local go_sem ↓] ld_lab
def labV : List Value := [.string ⟨#[]⟩, .string ⟨#[]⟩, .string ⟨#[]⟩, .string ⟨#[67, 78]⟩, .string ⟨#[]⟩, .string ⟨#[83, 78]⟩, .string ⟨#[67]⟩, .string ⟨#[76]⟩, .string ⟨#[83, 84]⟩, .string ⟨#[]⟩, .string ⟨#[79]⟩, .string ⟨#[79, 85]⟩]
theorem labV_range {w : World} (h : TabN w) : w.rangeAt 0 0 labV := by
  intro j v hj
  have hjl : j < 12 := (List.getElem?_eq_some_iff.1 hj).1
  have h1 := h j hjl
  rw [Nat.zero_add, h1, ← hj]
  match j, hjl with
  | 0, _ | 1, _ | 2, _ | 3, _ | 4, _ | 5, _ | 6, _ | 7, _ | 8, _ | 9, _ | 10, _ | 11, _ => rfl
theorem lab_load {w : World} (h : TabN w) : (ldT 86 (.pointer (some ⟨0, 0, none⟩))).run Tryd.prog w = .ok (.agg #[.string ⟨#[]⟩, .string ⟨#[]⟩, .string ⟨#[]⟩, .string ⟨#[67, 78]⟩, .string ⟨#[]⟩, .string ⟨#[83, 78]⟩, .string ⟨#[67]⟩, .string ⟨#[76]⟩, .string ⟨#[83, 84]⟩, .string ⟨#[]⟩, .string ⟨#[79]⟩, .string ⟨#[79, 85]⟩]) w :=
  run_loadAt_mid w 0 0 86 labV _ (labV_range h) Tryd.underlying86 rfl (by kernel_rfl)

theorem bs_beq (L : List UInt8) (s : ByteArray) : ((⟨L.toArray⟩ : ByteArray).toList == s.toList) = decide (L = s.data.toList) := by
  rw [ByteArray.toList_eq, ByteArray.toList_eq]
  by_cases h : L = s.data.toList
  · subst h; simp
  · rw [decide_eq_false h]
    exact beq_eq_false_iff_ne.2 h

end Go.Proofs.YtgbbgfjamneioaaDoor
