/-
  bytes.Equal; the document's All, and its inside: the elements in bytes that are one element of a tag.
-/
import Derived.Lib.Bytes
import Derived.Test.YtgbbgfjamneioaaZNmDecM
import Derived.Test.YtgbbgfjamneioaaZOneToLent
import Derived.Test.YtgbbgfjamneioaaZMoreIToRRow
namespace Go.Proofs.Ytgbbgfjamneioaa
open Go.RowKit Go.IntWalk Go.Shelf

theorem byte_injN : ∀ {xs ys : List Int}, (∀ x ∈ xs, 0 ≤ x ∧ x < 256) → (∀ x ∈ ys, 0 ≤ x ∧ x < 256) → Lib.bytesOf xs = Lib.bytesOf ys → xs = ys
  | [], [], _, _, _ => rfl
  | [], _ :: _, _, _, h => by simp [Lib.bytesOf] at h
  | _ :: _, [], _, _, h => by simp [Lib.bytesOf] at h
  | x :: xs, y :: ys, hx, hy, h => by
    simp only [Lib.bytesOf, List.map_cons, List.cons.injEq] at h
    have hx0 := hx x (by simp)
    have hy0 := hy y (by simp)
    have e : x.toNat % 256 = y.toNat % 256 := by
      have := congrArg UInt8.toNat h.1
      simpa [UInt8.toNat_ofNat'] using this
    have e2 : x = y := by omega
    rw [e2, byte_injN (fun z hz => hx z (by simp [hz])) (fun z hz => hy z (by simp [hz])) h.2]
/-- Texts of bytes are one just if the bytes are. -/
theorem textN_eq {xs ys : List Int} (hx : ∀ x ∈ xs, 0 ≤ x ∧ x < 256) (hy : ∀ x ∈ ys, 0 ≤ x ∧ x < 256) : ((strOfNums xs).toList == (strOfNums ys).toList) = decide (xs = ys) := by
  by_cases h : xs = ys
  · subst h; simp
  · rw [decide_eq_false h]
    apply beq_eq_false_iff_ne.2
    intro he
    rw [Lib.strOfNums_toList, Lib.strOfNums_toList] at he
    exact h (byte_injN hx hy he)

set_option maxRecDepth 100000 in
theorem equalN_any (a1 : Option Addr) (n1 c1 : Nat) (xs : List Int) (a2 : Option Addr) (n2 c2 : Nat) (ys : List Int) (w : World) (h1 : Src w a1 n1 c1 xs) (h2 : Src w a2 n2 c2 ys) :
    Calls Try.prog 12 #[.slice a1 n1 c1, .slice a2 n2 c2] w fun e w' => e = .returned (.bool (decide (xs = ys))) ∧ w' = w := by
  have t1 := h1.text
  have t2 := h2.text
  have he := textN_eq h1.hbyt h2.hbyt
  generalize strOfNums xs = s1 at *
  generalize strOfNums ys = s2 at *
  clear h1 h2
  go_enter Try.func12, Try.ntmps12
  go_wp2
  go_ret
  exact ⟨by rw [← he]; rfl, rfl⟩

theorem placesN_len (xs : List Int) : ∀ f p, (placesF xs f p).length ≤ f
  | 0, _ => Nat.le_refl _
  | f + 1, p => by
    unfold placesF
    split
    · have := placesN_len xs f (p + (findS (xs.drop p)).2.2.1.toNat)
      simp only [List.length_cons]
      omega
    · simp

/-- A row of elements, of new memory. -/
structure ElsN (w : World) (base : Nat) (ao : Option Addr) (n cap : Nat) (es : List (Int × List Int)) : Prop where
  hl : es.length = n
  hcap : n ≤ cap
  hmax : cap ≤ maxLen
  hbyt : ∀ e ∈ es, ∀ x ∈ e.2, 0 ≤ x ∧ x < 256
  hrd : 0 < n → ∃ b off, ao = some ⟨b, off, none⟩ ∧ base ≤ b ∧ ∀ i, i < n → ∃ a m c, w.cell? ⟨b, off + i * 2, none⟩ = some (.int .i64 (es.getD i (0, [])).1) ∧ w.cell? ⟨b, off + i * 2 + 1, none⟩ = some (.slice a m c) ∧ OwnB w base (.slice a m c) (es.getD i (0, [])).2
theorem ElsN.below {w w' : World} {base : Nat} {ao : Option Addr} {n cap : Nat} {es : List (Int × List Int)} (h : ElsN w base ao n cap es) (hb : Below w.heap.size w w') : ElsN w' base ao n cap es := by
  refine ⟨h.hl, h.hcap, h.hmax, h.hbyt, fun hn => ?_⟩
  obtain ⟨b, off, he, hbb, hc⟩ := h.hrd hn
  refine ⟨b, off, he, hbb, fun i hi => ?_⟩
  obtain ⟨a, m, c, h1, h2, h3⟩ := hc i hi
  exact ⟨a, m, c, (hb.cell (lt_of_cell h1)).trans h1, (hb.cell (lt_of_cell h2)).trans h2, row_below h3 hb⟩
theorem ElsN.rebase {w : World} {base base' : Nat} {ao : Option Addr} {n cap : Nat} {es : List (Int × List Int)} (h : ElsN w base' ao n cap es) (hb : base ≤ base') : ElsN w base ao n cap es := by
  refine ⟨h.hl, h.hcap, h.hmax, h.hbyt, fun hn => ?_⟩
  obtain ⟨b, off, he, hbb, hc⟩ := h.hrd hn
  refine ⟨b, off, he, by omega, fun i hi => ?_⟩
  obtain ⟨a, m, c, h1, h2, h3⟩ := hc i hi
  exact ⟨a, m, c, h1, h2, OwnB.rebase h3 hb⟩
theorem ElsN.nil (w : World) (base : Nat) : ElsN w base none 0 0 [] := ⟨rfl, Nat.le_refl _, by decide, by simp, fun h => absurd h (by omega)⟩
theorem ematch_at {W : World} {base : Nat} : ∀ {cs : List Value} {es : List (Int × List Int)}, EMatch W base cs es → ∀ i, i < es.length → cs[i * 2]? = some (.int .i64 (es.getD i (0, [])).1) ∧ ∃ a m c, cs[i * 2 + 1]? = some (.slice a m c) ∧ OwnB W base (.slice a m c) (es.getD i (0, [])).2
  | [], [], _, i, h => by simp at h
  | _ :: _ :: _, e :: es, ⟨h1, ⟨a, m, c, h2⟩, h3, h4⟩, i, h => by
    cases i with
    | zero => subst h1 h2; exact ⟨rfl, a, m, c, rfl, h3⟩
    | succ i =>
      have ih := ematch_at h4 i (by simpa using h)
      rw [show (i + 1) * 2 = i * 2 + 1 + 1 by omega]
      simpa using ih
theorem RowSt.els {w : World} {base : Nat} {a1 : Option Addr} {K c1 : Nat} {P : Value} {xs : List Int} {ps : List Nat} {cs : List Value} (h : RowSt w base (.slice a1 K c1) P xs ps cs) (hb : ∀ x ∈ xs, 0 ≤ x ∧ x < 256) (hK : ps.length = K) : ElsN w base a1 K c1 (ps.map (elS xs)) := by
  have hl := h.hl
  rw [hK] at hl
  obtain ⟨h1, ⟨h2, h3⟩ | ⟨g, cap, cur, h2, h3, h4, h5, h6, h7⟩⟩ := hl
  · cases h2
    have hp : ps = [] := List.eq_nil_of_length_eq_zero hK
    subst hp
    exact ElsN.nil w base
  · cases h2
    refine ⟨by rw [List.length_map]; exact hK, h5, h6, fun e he => ?_, fun hn => ⟨g, 0, rfl, h3, fun i hi => ?_⟩⟩
    · obtain ⟨p, _, rfl⟩ := List.mem_map.1 he
      unfold elS
      exact contS_byte _ (fun y hy => hb y (List.mem_of_mem_drop hy))
    · obtain ⟨k1, a, m, c, k2, k3⟩ := ematch_at h.hm i (by rw [List.length_map, hK]; exact hi)
      have e1 := World.ownsRow.cells h.hl (g := g) rfl _ _ k1
      have e2 := World.ownsRow.cells h.hl (g := g) rfl _ _ k2
      rw [add_none, Nat.zero_add] at e1 e2
      rw [Nat.zero_add]
      exact ⟨a, m, c, e1, e2, k3⟩

/-- The elements that All tells; where it ends. -/
def allE (xs : List Int) : List (Int × List Int) := if rowErr xs = 0 then (placesS xs 0).map (elS xs) else []
def allQ (xs : List Int) : Int := ((endS xs (placesS xs 0) : Nat) : Int)
theorem allE_ok {xs : List Int} (h : rowErr xs = 0) : allE xs = (placesS xs 0).map (elS xs) := by unfold allE; rw [if_pos h]
theorem allE_no {xs : List Int} (h : rowErr xs ≠ 0) : allE xs = [] := by unfold allE; rw [if_neg h]

set_option maxRecDepth 100000 in
set_option maxHeartbeats 1000000 in
theorem refAll_any (ao : Option Addr) (n cap : Nat) (xs : List Int) (w : World) (hs : Src w ao n cap xs) (hN : (n : Int) ≤ 4398046511104) :
    Calls Try.prog 45 #[.slice ao n cap] w fun e w' => ∃ a m c, e = .returned (.tuple #[.slice a m c, .int .i64 (allQ xs), .int .i64 (rowErr xs)]) ∧ ElsN w' w.heap.size a m c (allE xs) ∧ Below w.heap.size w w' := by
  have h1 : Hid (Calls Try.prog 60 #[.slice ao n cap] w fun e w' => ∃ a1 a2 c1 c2 K, e = .returned (.tuple #[.slice a1 K c1, .slice a2 K c2, .int .i64 (allQ xs), .int .i64 (rowErr xs)]) ∧ ElsN w' w.heap.size a1 K c1 ((placesS xs 0).map (elS xs)) ∧ Below w.heap.size w w') := by
    refine (refRow_any ao n cap xs w hs hN).mono ?_
    rintro e w1 ⟨a1, a2, c1, c2, K, cs, err, rfl, hK, hR, rfl, _, B1⟩
    exact ⟨a1, a2, c1, c2, K, rfl, hR.els hs.hbyt hK.symm, B1⟩
  have HO : Hid (rowErr xs = 0 → allE xs = (placesS xs 0).map (elS xs)) := allE_ok
  have HN : Hid (rowErr xs ≠ 0 → allE xs = []) := allE_no
  clear hs
  generalize allQ xs = q at *
  generalize (placesS xs 0).map (elS xs) = es at *
  generalize rowErr xs = er at *
  generalize allE xs = al at *
  go_enter Try.func45, Try.ntmps45
  go_wp2_with fail
  refine h1.out.mono ?_
  rintro e w1 ⟨a1, a2, c1, c2, K, rfl, hE0, B1⟩
  have hE := hide hE0
  clear h1 hE0
  by_cases he : er = 0
  · subst he
    have h0 : ((0 : Int) != 0) = false := rfl
    obtain rfl := HO.out rfl
    go_wp2
    refine bodyPost_ret (v := .tuple #[.slice a1 K c1, .int .i64 q, .int .i64 0]) (by simp [results, Try.results45, go_sem]) rfl ⟨a1, K, c1, rfl, hE.out, B1⟩
  · have h0 : (er != 0) = true := by simpa using he
    obtain rfl := HN.out he
    go_wp2
    refine bodyPost_ret (v := .tuple #[.slice none 0 0, .int .i64 q, .int .i64 er]) (by simp [results, Try.results45, go_sem]) rfl ⟨none, 0, 0, rfl, ElsN.nil _ _, B1⟩

set_option maxRecDepth 100000 in
set_option maxHeartbeats 2000000 in
theorem inside_any (ao : Option Addr) (n cap : Nat) (xs : List Int) (tag : Int) (w : World) (hs : Src w ao n cap xs) (hN : n ≤ 1048576) :
    Calls Try.prog 29 #[.slice ao n cap, .int .i64 tag] w fun e w' => ∃ a m c, e = .returned (.tuple #[.slice a m c, .bool (insS xs tag).isSome]) ∧ ElsN w' w.heap.size a m c ((insS xs tag).getD []) ∧ m ≤ 1048576 ∧ Below w.heap.size w w' := by
  have h1 := hide (refOne_any ao n cap xs w hs (by omega))
  have HB := hide (oneS_byte xs hs.hbyt)
  have HL : Hid ((oneS xs).2.1.length ≤ n) := by have := one_len xs; rw [hs.hlen] at this; exact this
  have HI : Hid (insS xs tag = if (oneS xs).2.2 = 0 ∧ (oneS xs).1 = tag ∧ rowErr (oneS xs).2.1 = 0 then some ((placesS (oneS xs).2.1 0).map (elS (oneS xs).2.1)) else none) := rfl
  clear hs
  generalize insS xs tag = I at HI ⊢
  go_enter Try.func29, Try.ntmps29
  go_wp2_with fail
  refine h1.out.mono ?_
  rintro e w1 ⟨a1, m1, c1, rfl, o1, B1⟩
  generalize (oneS xs).2.2 = er at HI ⊢
  generalize (oneS xs).1 = t1 at HI ⊢
  generalize (oneS xs).2.1 = X at HI HB HL o1
  have s1 := o1.toSrc HB.out
  have hm1 := s1.hlen
  have bA := nbelow w1 (.cells #[.int .i64 t1, .slice a1 m1 c1] 46)
  have cA : (w1.alloc (.cells #[.int .i64 t1, .slice a1 m1 c1] 46)).cell? ⟨w1.heap.size, 0, none⟩ = some (.int .i64 t1) := by simp
  have cB : (w1.alloc (.cells #[.int .i64 t1, .slice a1 m1 c1] 46)).cell? ⟨w1.heap.size, 1, none⟩ = some (.slice a1 m1 c1) := by simp
  have BA := B1.trans (bA.mono B1.size)
  have h2 := hide (refAll_any a1 m1 c1 X _ (s1.below bA) (by have := HL.out; omega))
  clear h1 o1 s1 bA
  by_cases h0 : er = 0
  · by_cases ht : t1 = tag
    · subst h0 ht
      have e0 : ((0 : Int) != 0) = false := rfl
      have e1 : (t1 != t1) = false := by simp
      go_wp2_with fail
      refine h2.out.mono ?_
      rintro e w2 ⟨a2, m2, c2, rfl, hE, B2⟩
      have hml : Hid (m2 ≤ 1048576) := by
        have h3 := hE.hl
        have h4 := HL.out
        unfold allE at h3
        split at h3
        · rw [List.length_map] at h3
          have := placesN_len X (X.length - 0) 0
          unfold placesS at h3
          unfold Hid; omega
        · simp at h3; unfold Hid; omega
      have HO : Hid (rowErr X = 0 → allE X = (placesS X 0).map (elS X)) := allE_ok
      have HN : Hid (rowErr X ≠ 0 → allE X = []) := allE_no
      generalize allQ X = q
      generalize allE X = al at HO HN hE
      generalize rowErr X = rr at HI HO HN ⊢
      have HE := hide (hE.rebase BA.size)
      clear hE h2 cA cB
      have hI2 : Hid (I.isSome = (rr == 0)) := by
        unfold Hid
        rw [HI.out]
        by_cases hr : rr = 0
        · rw [if_pos (by simp [hr]), hr]; rfl
        · rw [if_neg (by simp [hr])]; simp [hr]
      have hI3 : Hid (I.getD [] = al) := by
        unfold Hid
        rw [HI.out]
        by_cases hr : rr = 0
        · rw [if_pos (by simp [hr]), HO.out hr]; rfl
        · rw [if_neg (by simp [hr]), HN.out hr]; rfl
      go_wp2
      refine bodyPost_ret (v := .tuple #[.slice a2 m2 c2, .bool (rr == 0)]) (by simp [results, Try.results29, go_sem]) rfl ⟨a2, m2, c2, by rw [hI2.out], by rw [hI3.out]; exact HE.out, hml.out, BA.trans (B2.mono BA.size)⟩
    · subst h0
      have e0 : ((0 : Int) != 0) = false := rfl
      have e1 : (t1 != tag) = true := by simpa using ht
      have hI : I = none := by rw [HI.out, if_neg (fun h => ht h.2.1)]
      subst hI
      clear h2 HI
      go_wp2
      refine bodyPost_ret (v := .tuple #[.slice none 0 0, .bool false]) (by simp [results, Try.results29, go_sem]) rfl ⟨none, 0, 0, rfl, ElsN.nil _ _, by omega, BA⟩
  · have e0 : (er != 0) = true := by simpa using h0
    have hI : I = none := by rw [HI.out, if_neg (fun h => h0 h.1)]
    subst hI
    clear h2 HI
    go_wp2
    refine bodyPost_ret (v := .tuple #[.slice none 0 0, .bool false]) (by simp [results, Try.results29, go_sem]) rfl ⟨none, 0, 0, rfl, ElsN.nil _ _, by omega, BA⟩

end Go.Proofs.Ytgbbgfjamneioaa
