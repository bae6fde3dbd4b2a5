/-
  bytes.Equal; the document's All, and its inside: the elements in bytes that are one element of a tag.
  The document's Words: the words of a text, as a row.
-/
import Derived.Lib.Bytes
import Derived.Test.YtcbcdfdicefkoaaGreatDoorYNmDcdToNmDecM
import Derived.Test.YtcbcdfdicefkoaaGreatDoorYROneToRRow
import Derived.Test.YtcbcdfdicefkoaaGreatDoorYWiMailToHoR
import Derived.Test.YtcbcdfdicefkoaaGreatDoorYTxW1ToTxF1
namespace Go.Proofs.YtcbcdfdicefkoaaGreatDoor
open Go.RowKit Go.IntWalk Go.Shelf

theorem byte_injN : ∀ {xs ys : List Int}, (∀ x ∈ xs, 0 ≤ x ∧ x < 256) → (∀ x ∈ ys, 0 ≤ x ∧ x < 256) → Lib.bytesOf xs = Lib.bytesOf ys → xs = ys
  | [], [], _, _, _ => rfl
  | [], _ :: _, _, _, h => by simp [Lib.bytesOf] at h
  | _ :: _, [], _, _, h => by simp [Lib.bytesOf] at h
  | x :: xs, y :: ys, hx, hy, h => by
    simp only [Lib.bytesOf, List.map_cons, List.cons.injEq] at h
    have hx0 := hx x (by simp)
    have hy0 := hy y (by simp)
    have e : x.toNat % 256 = y.toNat % 256 := by
      have := congrArg UInt8.toNat h.1
      simpa [UInt8.toNat_ofNat'] using this
    have e2 : x = y := by omega
    rw [e2, byte_injN (fun z hz => hx z (by simp [hz])) (fun z hz => hy z (by simp [hz])) h.2]
/-- Texts of bytes are one just if the bytes are. -/
theorem textN_eq {xs ys : List Int} (hx : ∀ x ∈ xs, 0 ≤ x ∧ x < 256) (hy : ∀ x ∈ ys, 0 ≤ x ∧ x < 256) : ((strOfNums xs).toList == (strOfNums ys).toList) = decide (xs = ys) := by
  by_cases h : xs = ys
  · subst h; simp
  · rw [decide_eq_false h]
    apply beq_eq_false_iff_ne.2
    intro he
    rw [Lib.strOfNums_toList, Lib.strOfNums_toList] at he
    exact h (byte_injN hx hy he)

set_option maxRecDepth 100000 in
theorem equalN_any (a1 : Option Addr) (n1 c1 : Nat) (xs : List Int) (a2 : Option Addr) (n2 c2 : Nat) (ys : List Int) (w : World) (h1 : Src w a1 n1 c1 xs) (h2 : Src w a2 n2 c2 ys) :
    Calls Tryz.prog 147 #[.slice a1 n1 c1, .slice a2 n2 c2] w fun e w' => e = .returned (.bool (decide (xs = ys))) ∧ w' = w := by
  have t1 := h1.text
  have t2 := h2.text
  have he := textN_eq h1.hbyt h2.hbyt
  generalize strOfNums xs = s1 at *
  generalize strOfNums ys = s2 at *
  clear h1 h2
  go_enter Tryz.func147, Tryz.ntmps147
  go_wp2
  go_ret
  exact ⟨by rw [← he]; rfl, rfl⟩

theorem placesN_len (xs : List Int) : ∀ f p, (placesF xs f p).length ≤ f
  | 0, _ => Nat.le_refl _
  | f + 1, p => by
    unfold placesF
    split
    · have := placesN_len xs f (p + (findS (xs.drop p)).2.2.1.toNat)
      simp only [List.length_cons]
      omega
    · simp

/-- A row of elements, of new memory. -/
structure ElsN (w : World) (base : Nat) (ao : Option Addr) (n cap : Nat) (es : List (Int × List Int)) : Prop where
  hl : es.length = n
  hcap : n ≤ cap
  hmax : cap ≤ maxLen
  hbyt : ∀ e ∈ es, ∀ x ∈ e.2, 0 ≤ x ∧ x < 256
  hrd : 0 < n → ∃ b off, ao = some ⟨b, off, none⟩ ∧ base ≤ b ∧ ∀ i, i < n → ∃ a m c, w.cell? ⟨b, off + i * 2, none⟩ = some (.int .i64 (es.getD i (0, [])).1) ∧ w.cell? ⟨b, off + i * 2 + 1, none⟩ = some (.slice a m c) ∧ OwnB w base (.slice a m c) (es.getD i (0, [])).2
theorem ElsN.below {w w' : World} {base : Nat} {ao : Option Addr} {n cap : Nat} {es : List (Int × List Int)} (h : ElsN w base ao n cap es) (hb : Below w.heap.size w w') : ElsN w' base ao n cap es := by
  refine ⟨h.hl, h.hcap, h.hmax, h.hbyt, fun hn => ?_⟩
  obtain ⟨b, off, he, hbb, hc⟩ := h.hrd hn
  refine ⟨b, off, he, hbb, fun i hi => ?_⟩
  obtain ⟨a, m, c, h1, h2, h3⟩ := hc i hi
  exact ⟨a, m, c, (hb.cell (lt_of_cell h1)).trans h1, (hb.cell (lt_of_cell h2)).trans h2, row_below h3 hb⟩
theorem ElsN.rebase {w : World} {base base' : Nat} {ao : Option Addr} {n cap : Nat} {es : List (Int × List Int)} (h : ElsN w base' ao n cap es) (hb : base ≤ base') : ElsN w base ao n cap es := by
  refine ⟨h.hl, h.hcap, h.hmax, h.hbyt, fun hn => ?_⟩
  obtain ⟨b, off, he, hbb, hc⟩ := h.hrd hn
  refine ⟨b, off, he, by omega, fun i hi => ?_⟩
  obtain ⟨a, m, c, h1, h2, h3⟩ := hc i hi
  exact ⟨a, m, c, h1, h2, OwnB.rebase h3 hb⟩
theorem ElsN.nil (w : World) (base : Nat) : ElsN w base none 0 0 [] := ⟨rfl, Nat.le_refl _, by decide, by simp, fun h => absurd h (by omega)⟩
theorem ematch_at {W : World} {base : Nat} : ∀ {cs : List Value} {es : List (Int × List Int)}, EMatch W base cs es → ∀ i, i < es.length → cs[i * 2]? = some (.int .i64 (es.getD i (0, [])).1) ∧ ∃ a m c, cs[i * 2 + 1]? = some (.slice a m c) ∧ OwnB W base (.slice a m c) (es.getD i (0, [])).2
  | [], [], _, i, h => by simp at h
  | _ :: _ :: _, e :: es, ⟨h1, ⟨a, m, c, h2⟩, h3, h4⟩, i, h => by
    cases i with
    | zero => subst h1 h2; exact ⟨rfl, a, m, c, rfl, h3⟩
    | succ i =>
      have ih := ematch_at h4 i (by simpa using h)
      rw [show (i + 1) * 2 = i * 2 + 1 + 1 by omega]
      simpa using ih
theorem RowSt.els {w : World} {base : Nat} {a1 : Option Addr} {K c1 : Nat} {P : Value} {xs : List Int} {ps : List Nat} {cs : List Value} (h : RowSt w base (.slice a1 K c1) P xs ps cs) (hb : ∀ x ∈ xs, 0 ≤ x ∧ x < 256) (hK : ps.length = K) : ElsN w base a1 K c1 (ps.map (elS xs)) := by
  have hl := h.hl
  rw [hK] at hl
  obtain ⟨h1, ⟨h2, h3⟩ | ⟨g, cap, cur, h2, h3, h4, h5, h6, h7⟩⟩ := hl
  · cases h2
    have hp : ps = [] := List.eq_nil_of_length_eq_zero hK
    subst hp
    exact ElsN.nil w base
  · cases h2
    refine ⟨by rw [List.length_map]; exact hK, h5, h6, fun e he => ?_, fun hn => ⟨g, 0, rfl, h3, fun i hi => ?_⟩⟩
    · obtain ⟨p, _, rfl⟩ := List.mem_map.1 he
      unfold elS
      exact contS_byte _ (fun y hy => hb y (List.mem_of_mem_drop hy))
    · obtain ⟨k1, a, m, c, k2, k3⟩ := ematch_at h.hm i (by rw [List.length_map, hK]; exact hi)
      have e1 := World.ownsRow.cells h.hl (g := g) rfl _ _ k1
      have e2 := World.ownsRow.cells h.hl (g := g) rfl _ _ k2
      rw [add_none, Nat.zero_add] at e1 e2
      rw [Nat.zero_add]
      exact ⟨a, m, c, e1, e2, k3⟩

/-- The elements that All tells; where it ends. -/
def allE (xs : List Int) : List (Int × List Int) := if rowErr xs = 0 then (placesS xs 0).map (elS xs) else []
def allQ (xs : List Int) : Int := ((endS xs (placesS xs 0) : Nat) : Int)
theorem allE_ok {xs : List Int} (h : rowErr xs = 0) : allE xs = (placesS xs 0).map (elS xs) := by unfold allE; rw [if_pos h]
theorem allE_no {xs : List Int} (h : rowErr xs ≠ 0) : allE xs = [] := by unfold allE; rw [if_neg h]

set_option maxRecDepth 100000 in
set_option maxHeartbeats 1000000 in
theorem refAll_any (ao : Option Addr) (n cap : Nat) (xs : List Int) (w : World) (hs : Src w ao n cap xs) (hN : (n : Int) ≤ 4398046511104) :
    Calls Tryz.prog 130 #[.slice ao n cap] w fun e w' => ∃ a m c, e = .returned (.tuple #[.slice a m c, .int .i64 (allQ xs), .int .i64 (rowErr xs)]) ∧ ElsN w' w.heap.size a m c (allE xs) ∧ Below w.heap.size w w' := by
  have h1 : Hid (Calls Tryz.prog 151 #[.slice ao n cap] w fun e w' => ∃ a1 a2 c1 c2 K, e = .returned (.tuple #[.slice a1 K c1, .slice a2 K c2, .int .i64 (allQ xs), .int .i64 (rowErr xs)]) ∧ ElsN w' w.heap.size a1 K c1 ((placesS xs 0).map (elS xs)) ∧ Below w.heap.size w w') := by
    refine (refRow_any ao n cap xs w hs hN).mono ?_
    rintro e w1 ⟨a1, a2, c1, c2, K, cs, err, rfl, hK, hR, rfl, _, B1⟩
    exact ⟨a1, a2, c1, c2, K, rfl, hR.els hs.hbyt hK.symm, B1⟩
  have HO : Hid (rowErr xs = 0 → allE xs = (placesS xs 0).map (elS xs)) := allE_ok
  have HN : Hid (rowErr xs ≠ 0 → allE xs = []) := allE_no
  clear hs
  generalize allQ xs = q at *
  generalize (placesS xs 0).map (elS xs) = es at *
  generalize rowErr xs = er at *
  generalize allE xs = al at *
  go_enter Tryz.func130, Tryz.ntmps130
  go_wp2_with fail
  refine h1.out.mono ?_
  rintro e w1 ⟨a1, a2, c1, c2, K, rfl, hE0, B1⟩
  have hE := hide hE0
  clear h1 hE0
  by_cases he : er = 0
  · subst he
    have h0 : ((0 : Int) != 0) = false := rfl
    obtain rfl := HO.out rfl
    go_wp2
    refine bodyPost_ret (v := .tuple #[.slice a1 K c1, .int .i64 q, .int .i64 0]) (by simp [results, Tryz.results130, go_sem]) rfl ⟨a1, K, c1, rfl, hE.out, B1⟩
  · have h0 : (er != 0) = true := by simpa using he
    obtain rfl := HN.out he
    go_wp2
    refine bodyPost_ret (v := .tuple #[.slice none 0 0, .int .i64 q, .int .i64 er]) (by simp [results, Tryz.results130, go_sem]) rfl ⟨none, 0, 0, rfl, ElsN.nil _ _, B1⟩

set_option maxRecDepth 100000 in
set_option maxHeartbeats 2000000 in
theorem inside_any (ao : Option Addr) (n cap : Nat) (xs : List Int) (tag : Int) (w : World) (hs : Src w ao n cap xs) (hN : n ≤ 1048576) :
    Calls Tryz.prog 106 #[.slice ao n cap, .int .i64 tag] w fun e w' => ∃ a m c, e = .returned (.tuple #[.slice a m c, .bool (insS xs tag).isSome]) ∧ ElsN w' w.heap.size a m c ((insS xs tag).getD []) ∧ m ≤ 1048576 ∧ Below w.heap.size w w' := by
  have h1 := hide (refOne_any ao n cap xs w hs (by omega))
  have HB := hide (oneS_byte xs hs.hbyt)
  have HL : Hid ((oneS xs).2.1.length ≤ n) := by have := one_len xs; rw [hs.hlen] at this; exact this
  have HI : Hid (insS xs tag = if (oneS xs).2.2 = 0 ∧ (oneS xs).1 = tag ∧ rowErr (oneS xs).2.1 = 0 then some ((placesS (oneS xs).2.1 0).map (elS (oneS xs).2.1)) else none) := rfl
  clear hs
  generalize insS xs tag = I at HI ⊢
  go_enter Tryz.func106, Tryz.ntmps106
  go_wp2_with fail
  refine h1.out.mono ?_
  rintro e w1 ⟨a1, m1, c1, rfl, o1, B1⟩
  generalize (oneS xs).2.2 = er at HI ⊢
  generalize (oneS xs).1 = t1 at HI ⊢
  generalize (oneS xs).2.1 = X at HI HB HL o1
  have s1 := o1.toSrc HB.out
  have hm1 := s1.hlen
  have bA := nbelow w1 (.cells #[.int .i64 t1, .slice a1 m1 c1] 90)
  have cA : (w1.alloc (.cells #[.int .i64 t1, .slice a1 m1 c1] 90)).cell? ⟨w1.heap.size, 0, none⟩ = some (.int .i64 t1) := by simp
  have cB : (w1.alloc (.cells #[.int .i64 t1, .slice a1 m1 c1] 90)).cell? ⟨w1.heap.size, 1, none⟩ = some (.slice a1 m1 c1) := by simp
  have BA := B1.trans (bA.mono B1.size)
  have h2 := hide (refAll_any a1 m1 c1 X _ (s1.below bA) (by have := HL.out; omega))
  clear h1 o1 s1 bA
  by_cases h0 : er = 0
  · by_cases ht : t1 = tag
    · subst h0 ht
      have e0 : ((0 : Int) != 0) = false := rfl
      have e1 : (t1 != t1) = false := by simp
      go_wp2_with fail
      refine h2.out.mono ?_
      rintro e w2 ⟨a2, m2, c2, rfl, hE, B2⟩
      have hml : Hid (m2 ≤ 1048576) := by
        have h3 := hE.hl
        have h4 := HL.out
        unfold allE at h3
        split at h3
        · rw [List.length_map] at h3
          have := placesN_len X (X.length - 0) 0
          unfold placesS at h3
          unfold Hid; omega
        · simp at h3; unfold Hid; omega
      have HO : Hid (rowErr X = 0 → allE X = (placesS X 0).map (elS X)) := allE_ok
      have HN : Hid (rowErr X ≠ 0 → allE X = []) := allE_no
      generalize allQ X = q
      generalize allE X = al at HO HN hE
      generalize rowErr X = rr at HI HO HN ⊢
      have HE := hide (hE.rebase BA.size)
      clear hE h2 cA cB
      have hI2 : Hid (I.isSome = (rr == 0)) := by
        unfold Hid
        rw [HI.out]
        by_cases hr : rr = 0
        · rw [if_pos (by simp [hr]), hr]; rfl
        · rw [if_neg (by simp [hr])]; simp [hr]
      have hI3 : Hid (I.getD [] = al) := by
        unfold Hid
        rw [HI.out]
        by_cases hr : rr = 0
        · rw [if_pos (by simp [hr]), HO.out hr]; rfl
        · rw [if_neg (by simp [hr]), HN.out hr]; rfl
      go_wp2
      refine bodyPost_ret (v := .tuple #[.slice a2 m2 c2, .bool (rr == 0)]) (by simp [results, Tryz.results106, go_sem]) rfl ⟨a2, m2, c2, by rw [hI2.out], by rw [hI3.out]; exact HE.out, hml.out, BA.trans (B2.mono BA.size)⟩
    · subst h0
      have e0 : ((0 : Int) != 0) = false := rfl
      have e1 : (t1 != tag) = true := by simpa using ht
      have hI : I = none := by rw [HI.out, if_neg (fun h => ht h.2.1)]
      subst hI
      clear h2 HI
      go_wp2
      refine bodyPost_ret (v := .tuple #[.slice none 0 0, .bool false]) (by simp [results, Tryz.results106, go_sem]) rfl ⟨none, 0, 0, rfl, ElsN.nil _ _, by omega, BA⟩
  · have e0 : (er != 0) = true := by simpa using h0
    have hI : I = none := by rw [HI.out, if_neg (fun h => h0 h.1)]
    subst hI
    clear h2 HI
    go_wp2
    refine bodyPost_ret (v := .tuple #[.slice none 0 0, .bool false]) (by simp [results, Tryz.results106, go_sem]) rfl ⟨none, 0, 0, rfl, ElsN.nil _ _, by omega, BA⟩

end Go.Proofs.YtcbcdfdicefkoaaGreatDoor

namespace Go.Proofs.YtcbcdfdicefkoaaGreatDoor
open Go.RowKit Go.IntWalk

/-- Words as texts. -/
def texts (ws : List (List UInt8)) : List ByteArray := ws.map (fun u => ⟨u.toArray⟩)

/-- What has been told of the words, and what is left. -/
def WRel (l : List UInt8) (ws : List (List UInt8)) (a k : Nat) : Prop := (k ≤ l.length → wordsL l = ws ++ wordsG (cutL l a k) (l.drop k)) ∧ (l.length < k → wordsL l = ws)

theorem wrel_start (l : List UInt8) : WRel l [] 0 0 := ⟨fun _ => words_begin l, fun h => by omega⟩

theorem wrel_end (l : List UInt8) (ws : List (List UInt8)) (a k : Nat) (h : WRel l ws a k) (hk : l.length < k) : wordsL l = ws := h.2 hk

theorem wrel_step (l : List UInt8) (ws : List (List UInt8)) (a k : Nat) (h : WRel l ws a k) (hak : a ≤ k) (hk : k < l.length) (hb : l[k]'hk ≠ 32) : WRel l ws a (k + 1) := by
  refine ⟨fun _ => ?_, fun h => by omega⟩
  rw [h.1 (by omega), words_step l a k 1 hak (by omega) ?_]
  intro b hb2
  have e : (l.drop k).take 1 = [l[k]'hk] := by rw [List.drop_eq_getElem_cons hk]; rfl
  rw [e] at hb2
  have hb3 := List.mem_singleton.1 hb2
  subst hb3
  exact hb

theorem wrel_empty (l : List UInt8) (ws : List (List UInt8)) (a k : Nat) (h : WRel l ws a k) (hk : k ≤ l.length) (e : a = k) (hs : k = l.length ∨ ∃ h : k < l.length, l[k]'h = 32) : WRel l ws (k + 1) (k + 1) := by
  subst e
  rcases hs with hs | ⟨hlt, hs⟩
  · subst hs
    refine ⟨fun h => by omega, fun _ => ?_⟩
    rw [h.1 (Nat.le_refl _), words_end l _ (Nat.le_refl _), if_pos rfl, List.append_nil]
  · refine ⟨fun _ => ?_, fun h => by omega⟩
    rw [h.1 hk, words_blank l a a hlt hs (Nat.le_refl _), if_pos rfl]

theorem wrel_word (l : List UInt8) (ws : List (List UInt8)) (a k : Nat) (h : WRel l ws a k) (hk : k ≤ l.length) (e : a < k) (hs : k = l.length ∨ ∃ h : k < l.length, l[k]'h = 32) : WRel l (ws ++ [cutL l a k]) (k + 1) (k + 1) := by
  rcases hs with hs | ⟨hlt, hs⟩
  · subst hs
    refine ⟨fun h => by omega, fun _ => ?_⟩
    rw [h.1 (Nat.le_refl _), words_end l _ (by omega), if_neg (by omega)]
  · refine ⟨fun _ => ?_, fun h => by omega⟩
    rw [h.1 hk, words_blank l a k hlt hs (by omega), if_neg (by omega), List.append_assoc]
    rfl

theorem stop_list (s : ByteArray) (k : Nat) (h : k = s.size ∨ ∃ h : k < s.size, (s[k]'h) = 32) : k = s.data.toList.length ∨ ∃ h : k < s.data.toList.length, s.data.toList[k]'h = 32 := by
  rcases h with h | ⟨h, e⟩
  · left; rw [size_len]; exact h
  · right; exact ⟨by rw [size_len]; exact h, by rw [get_list s k h]; exact e⟩

theorem texts_more (ws : List (List UInt8)) (u : List UInt8) : texts (ws ++ [u]) = texts ws ++ [⟨u.toArray⟩] := by simp [texts]

set_option maxRecDepth 100000 in
set_option maxHeartbeats 2000000 in
theorem refWords_any (s : ByteArray) (hs : s.size ≤ 1048576) (w : World) :
    Calls Tryz.prog 136 #[.string s] w fun e w' => ∃ ao c, e = .returned (.slice ao (wordsL s.data.toList).length c) ∧ OwnS w' w.heap.size (.slice ao (wordsL s.data.toList).length c) (texts (wordsL s.data.toList)) ∧ Below w.heap.size w w' := by
  go_enter Tryz.func136, Tryz.ntmps136
  have hSL := size_len s
  go_wp2
  go_loopw [3, 4, 5] (fun l f i wr => ∃ (ws : List (List UInt8)) (ao : Option Addr) (c a k : Nat), l = .slice ao ws.length c ∧ f = .int .i64 a ∧ i = .int .i64 k ∧ a ≤ k ∧ k ≤ s.size + 1 ∧ ws.length ≤ k ∧ Hid (OwnS wr w.heap.size (.slice ao ws.length c) (texts ws) ∧ Below w.heap.size w wr) ∧ Hid (WRel s.data.toList ws a k)) (fun _ _ i _ => s.size + 1 - (intOf i).toNat)
  case atStart => exact ⟨[], none, 0, 0, 0, rfl, rfl, rfl, Nat.le_refl _, by omega, Nat.le_refl _, ⟨OwnS.nil _ _, Below.refl _ _⟩, wrel_start _⟩
  case round =>
    obtain ⟨ws, ao, c, a, k, rfl, rfl, rfl, hak, hk, hwk, HO, HW⟩ := hrel
    by_cases hle : k ≤ s.size
    · have leI : (k : Int) ≤ (s.size : Int) := by omega
      by_cases hstop : k = s.size ∨ ∃ h : k < s.size, (s[k]'h) = 32
      · have hb : Hid (a = k → WRel s.data.toList ws (k + 1) (k + 1)) := fun e => wrel_empty s.data.toList ws a k HW.out (by omega) e (stop_list s k hstop)
        have hw : Hid (a < k → WRel s.data.toList (ws ++ [cutL s.data.toList a k]) (k + 1) (k + 1)) := fun e => wrel_word s.data.toList ws a k HW.out (by omega) e (stop_list s k hstop)
        have sl : ∀ X, (Instr.slice 9 (.string s) (some (.int .i64 (a : Int))) (some (.int .i64 (k : Int))) none).run Tryz.prog X = .ok (.string ⟨(cutL s.data.toList a k).toArray⟩) X := fun X => by
          have h := run_slice_string (P := Tryz.prog) (w := X) 9 s .i64 .i64 (a : Int) (k : Int) Tryz.underlying9 (by omega) (by omega) (by omega)
          rw [h, ← cut_text]; simp
        generalize cutL s.data.toList a k = u at hw sl
        by_cases hend : k = s.size
        · subst hend
          clear hstop
          by_cases hlt : a < s.size
          · have hn := hide (hw.out hlt)
            have ltI : (a : Int) < (s.size : Int) := by omega
            have htl : (texts ws).length = ws.length := by simp [texts]
            have htl := hide htl
            clear hb hw HW
            go_wp2_with (at_builtin; refine wpList_appS _ rfl (.tmp 25) (.tmp 30) rfl w.heap.size _ (texts ws) rfl (HO.out.1.alloc _) wr.heap.size ⟨u.toArray⟩ rfl (by simp) (ws.length + 1) (by rw [htl.out]) (by omega) (by have := HO.out.2.size; simp; omega) ?_; intro g c' w1 o1 bg lg hc1 hm1 gr1)
            have HO1 : Hid (OwnS w1 w.heap.size (.slice (some ⟨g, 0, none⟩) (ws ++ [u]).length c') (texts (ws ++ [u])) ∧ Below w.heap.size w w1) := by
              unfold Hid
              rw [texts_more]
              have e : (ws ++ [u]).length = ws.length + 1 := by simp
              rw [e]
              exact ⟨o1, (HO.out.2.alloc HO.out.2.size _).grown gr1 (by have := HO.out.2.size; simp; omega) (fun j hj => (HO.out.1.lt j hj).1)⟩
            go_roundw
            case rel => exact ⟨ws ++ [u], some ⟨g, 0, none⟩, c', s.size + 1, s.size + 1, by simp, by simp, by simp, Nat.le_refl _, by omega, by simp; omega, HO1, hn⟩
            case measure => simp [intOf] <;> omega
          · have hn := hide (hb.out (by omega))
            have ltI : ¬ (a : Int) < (s.size : Int) := by omega
            clear hb hw HW
            go_wp2
            go_roundw
            case rel => exact ⟨ws, ao, c, s.size + 1, s.size + 1, rfl, by simp, by simp, Nat.le_refl _, by omega, by omega, HO, hn⟩
            case measure => simp [intOf] <;> omega
        · have hltN : k < s.size := by omega
          have h32 : (s[k]'hltN) = 32 := by
            rcases hstop with h | ⟨_, h⟩
            · exact absurd h hend
            · exact h
          have hq : ((k : Int) == (s.size : Int)) = false := by simp; omega
          have h32' : ((s[k]'hltN).toNat : Int) = 32 := by rw [h32]; rfl
          clear hend hstop h32
          by_cases hlt : a < k
          · have hn := hide (hw.out hlt)
            have ltI : (a : Int) < (k : Int) := by omega
            have htl : (texts ws).length = ws.length := by simp [texts]
            have htl := hide htl
            clear hb hw HW
            go_wp2_with (at_builtin; refine wpList_appS _ rfl (.tmp 25) (.tmp 30) rfl w.heap.size _ (texts ws) rfl (HO.out.1.alloc _) wr.heap.size ⟨u.toArray⟩ rfl (by simp) (ws.length + 1) (by rw [htl.out]) (by omega) (by have := HO.out.2.size; simp; omega) ?_; intro g c' w1 o1 bg lg hc1 hm1 gr1)
            have HO1 : Hid (OwnS w1 w.heap.size (.slice (some ⟨g, 0, none⟩) (ws ++ [u]).length c') (texts (ws ++ [u])) ∧ Below w.heap.size w w1) := by
              unfold Hid
              rw [texts_more]
              have e : (ws ++ [u]).length = ws.length + 1 := by simp
              rw [e]
              exact ⟨o1, (HO.out.2.alloc HO.out.2.size _).grown gr1 (by have := HO.out.2.size; simp; omega) (fun j hj => (HO.out.1.lt j hj).1)⟩
            go_roundw
            case rel => exact ⟨ws ++ [u], some ⟨g, 0, none⟩, c', k + 1, k + 1, by simp, by simp, by simp, Nat.le_refl _, by omega, by simp; omega, HO1, hn⟩
            case measure => simp [intOf] <;> omega
          · have hn := hide (hb.out (by omega))
            have ltI : ¬ (a : Int) < (k : Int) := by omega
            clear hb hw HW
            go_wp2
            go_roundw
            case rel => exact ⟨ws, ao, c, k + 1, k + 1, rfl, by simp, by simp, Nat.le_refl _, by omega, by omega, HO, hn⟩
            case measure => simp [intOf] <;> omega
      · have hltN : k < s.size := by
          rcases Nat.lt_or_ge k s.size with h | h
          · exact h
          · exact absurd (.inl (by omega)) hstop
        have hne : (s[k]'hltN) ≠ 32 := fun e => hstop (.inr ⟨hltN, e⟩)
        have hn : Hid (WRel s.data.toList ws a (k + 1)) := wrel_step s.data.toList ws a k HW.out hak (by omega) (by rw [get_list s k hltN]; exact hne)
        have hq : ((k : Int) == (s.size : Int)) = false := by simp; omega
        have hne' : (((s[k]'hltN).toNat : Int) == 32) = false := by
          rw [beq_eq_false_iff_ne]
          intro e
          apply hne
          apply UInt8.toNat_inj.1
          have e2 : (32 : UInt8).toNat = 32 := rfl
          rw [e2]
          omega
        clear hstop hne
        go_wp2
        go_roundw
        case rel => exact ⟨ws, ao, c, a, k + 1, rfl, rfl, by simp, by omega, by omega, by omega, HO, hn⟩
        case measure => simp [intOf] <;> omega
    · obtain rfl : k = s.size + 1 := by omega
      have hF : Hid (wordsL s.data.toList = ws) := wrel_end _ _ _ _ HW.out (by omega)
      have hnI : ¬ ((s.size + 1 : Nat) : Int) ≤ (s.size : Int) := by omega
      go_wp2
      go_ret
      rw [hF.out]
      exact ⟨ao, c, rfl, HO.out.1, HO.out.2⟩

end Go.Proofs.YtcbcdfdicefkoaaGreatDoor
