/-
  bytes.Equal; the document's All, and its inside: the elements in bytes that are one element of a tag.
  The statements' own calls lent, kept, names, works.
  Rows of attributes that grow: append of one, as a step of its own; how long the values are that are read.
  The document's put: the bytes of an element.
-/
import Derived.Lib.Bytes
import Derived.Test.YtklchpdpooikdaaGreatDoorXNmDcdToNmDecM
import Derived.Test.YtklchpdpooikdaaGreatDoorXROneToRRow
import Derived.Test.YtklchpdpooikdaaGreatDoorXTxR2ToNmLent
import Derived.Test.YtklchpdpooikdaaGreatDoorXNmRowToNmThere
import Derived.Test.YtklchpdpooikdaaGreatDoorXNmEncNToTxR1
import Derived.Test.YtklchpdpooikdaaGreatDoorXLenToRMay
namespace Go.Proofs.YtklchpdpooikdaaGreatDoor
open Go.RowKit Go.IntWalk Go.Shelf

theorem byte_injN : ∀ {xs ys : List Int}, (∀ x ∈ xs, 0 ≤ x ∧ x < 256) → (∀ x ∈ ys, 0 ≤ x ∧ x < 256) → Lib.bytesOf xs = Lib.bytesOf ys → xs = ys
  | [], [], _, _, _ => rfl
  | [], _ :: _, _, _, h => by simp [Lib.bytesOf] at h
  | _ :: _, [], _, _, h => by simp [Lib.bytesOf] at h
  | x :: xs, y :: ys, hx, hy, h => by
    simp only [Lib.bytesOf, List.map_cons, List.cons.injEq] at h
    have hx0 := hx x (by simp)
    have hy0 := hy y (by simp)
    have e : x.toNat % 256 = y.toNat % 256 := by
      have := congrArg UInt8.toNat h.1
      simpa [UInt8.toNat_ofNat'] using this
    have e2 : x = y := by omega
    rw [e2, byte_injN (fun z hz => hx z (by simp [hz])) (fun z hz => hy z (by simp [hz])) h.2]
/-- Texts of bytes are one just if the bytes are. -/
theorem textN_eq {xs ys : List Int} (hx : ∀ x ∈ xs, 0 ≤ x ∧ x < 256) (hy : ∀ x ∈ ys, 0 ≤ x ∧ x < 256) : ((strOfNums xs).toList == (strOfNums ys).toList) = decide (xs = ys) := by
  by_cases h : xs = ys
  · subst h; simp
  · rw [decide_eq_false h]
    apply beq_eq_false_iff_ne.2
    intro he
    rw [Lib.strOfNums_toList, Lib.strOfNums_toList] at he
    exact h (byte_injN hx hy he)

set_option maxRecDepth 100000 in
theorem equalN_any (a1 : Option Addr) (n1 c1 : Nat) (xs : List Int) (a2 : Option Addr) (n2 c2 : Nat) (ys : List Int) (w : World) (h1 : Src w a1 n1 c1 xs) (h2 : Src w a2 n2 c2 ys) :
    Calls Tryz.prog 122 #[.slice a1 n1 c1, .slice a2 n2 c2] w fun e w' => e = .returned (.bool (decide (xs = ys))) ∧ w' = w := by
  have t1 := h1.text
  have t2 := h2.text
  have he := textN_eq h1.hbyt h2.hbyt
  generalize strOfNums xs = s1 at *
  generalize strOfNums ys = s2 at *
  clear h1 h2
  go_enter Tryz.func122, Tryz.ntmps122
  go_wp2
  go_ret
  exact ⟨by rw [← he]; rfl, rfl⟩

theorem placesN_len (xs : List Int) : ∀ f p, (placesF xs f p).length ≤ f
  | 0, _ => Nat.le_refl _
  | f + 1, p => by
    unfold placesF
    split
    · have := placesN_len xs f (p + (findS (xs.drop p)).2.2.1.toNat)
      simp only [List.length_cons]
      omega
    · simp

/-- A row of elements, of new memory. -/
structure ElsN (w : World) (base : Nat) (ao : Option Addr) (n cap : Nat) (es : List (Int × List Int)) : Prop where
  hl : es.length = n
  hcap : n ≤ cap
  hmax : cap ≤ maxLen
  hbyt : ∀ e ∈ es, ∀ x ∈ e.2, 0 ≤ x ∧ x < 256
  hrd : 0 < n → ∃ b off, ao = some ⟨b, off, none⟩ ∧ base ≤ b ∧ ∀ i, i < n → ∃ a m c, w.cell? ⟨b, off + i * 2, none⟩ = some (.int .i64 (es.getD i (0, [])).1) ∧ w.cell? ⟨b, off + i * 2 + 1, none⟩ = some (.slice a m c) ∧ OwnB w base (.slice a m c) (es.getD i (0, [])).2
theorem ElsN.below {w w' : World} {base : Nat} {ao : Option Addr} {n cap : Nat} {es : List (Int × List Int)} (h : ElsN w base ao n cap es) (hb : Below w.heap.size w w') : ElsN w' base ao n cap es := by
  refine ⟨h.hl, h.hcap, h.hmax, h.hbyt, fun hn => ?_⟩
  obtain ⟨b, off, he, hbb, hc⟩ := h.hrd hn
  refine ⟨b, off, he, hbb, fun i hi => ?_⟩
  obtain ⟨a, m, c, h1, h2, h3⟩ := hc i hi
  exact ⟨a, m, c, (hb.cell (lt_of_cell h1)).trans h1, (hb.cell (lt_of_cell h2)).trans h2, row_below h3 hb⟩
theorem ElsN.rebase {w : World} {base base' : Nat} {ao : Option Addr} {n cap : Nat} {es : List (Int × List Int)} (h : ElsN w base' ao n cap es) (hb : base ≤ base') : ElsN w base ao n cap es := by
  refine ⟨h.hl, h.hcap, h.hmax, h.hbyt, fun hn => ?_⟩
  obtain ⟨b, off, he, hbb, hc⟩ := h.hrd hn
  refine ⟨b, off, he, by omega, fun i hi => ?_⟩
  obtain ⟨a, m, c, h1, h2, h3⟩ := hc i hi
  exact ⟨a, m, c, h1, h2, OwnB.rebase h3 hb⟩
theorem ElsN.nil (w : World) (base : Nat) : ElsN w base none 0 0 [] := ⟨rfl, Nat.le_refl _, by decide, by simp, fun h => absurd h (by omega)⟩
theorem ematch_at {W : World} {base : Nat} : ∀ {cs : List Value} {es : List (Int × List Int)}, EMatch W base cs es → ∀ i, i < es.length → cs[i * 2]? = some (.int .i64 (es.getD i (0, [])).1) ∧ ∃ a m c, cs[i * 2 + 1]? = some (.slice a m c) ∧ OwnB W base (.slice a m c) (es.getD i (0, [])).2
  | [], [], _, i, h => by simp at h
  | _ :: _ :: _, e :: es, ⟨h1, ⟨a, m, c, h2⟩, h3, h4⟩, i, h => by
    cases i with
    | zero => subst h1 h2; exact ⟨rfl, a, m, c, rfl, h3⟩
    | succ i =>
      have ih := ematch_at h4 i (by simpa using h)
      rw [show (i + 1) * 2 = i * 2 + 1 + 1 by omega]
      simpa using ih
theorem RowSt.els {w : World} {base : Nat} {a1 : Option Addr} {K c1 : Nat} {P : Value} {xs : List Int} {ps : List Nat} {cs : List Value} (h : RowSt w base (.slice a1 K c1) P xs ps cs) (hb : ∀ x ∈ xs, 0 ≤ x ∧ x < 256) (hK : ps.length = K) : ElsN w base a1 K c1 (ps.map (elS xs)) := by
  have hl := h.hl
  rw [hK] at hl
  obtain ⟨h1, ⟨h2, h3⟩ | ⟨g, cap, cur, h2, h3, h4, h5, h6, h7⟩⟩ := hl
  · cases h2
    have hp : ps = [] := List.eq_nil_of_length_eq_zero hK
    subst hp
    exact ElsN.nil w base
  · cases h2
    refine ⟨by rw [List.length_map]; exact hK, h5, h6, fun e he => ?_, fun hn => ⟨g, 0, rfl, h3, fun i hi => ?_⟩⟩
    · obtain ⟨p, _, rfl⟩ := List.mem_map.1 he
      unfold elS
      exact contS_byte _ (fun y hy => hb y (List.mem_of_mem_drop hy))
    · obtain ⟨k1, a, m, c, k2, k3⟩ := ematch_at h.hm i (by rw [List.length_map, hK]; exact hi)
      have e1 := World.ownsRow.cells h.hl (g := g) rfl _ _ k1
      have e2 := World.ownsRow.cells h.hl (g := g) rfl _ _ k2
      rw [add_none, Nat.zero_add] at e1 e2
      rw [Nat.zero_add]
      exact ⟨a, m, c, e1, e2, k3⟩

/-- The elements that All tells; where it ends. -/
def allE (xs : List Int) : List (Int × List Int) := if rowErr xs = 0 then (placesS xs 0).map (elS xs) else []
def allQ (xs : List Int) : Int := ((endS xs (placesS xs 0) : Nat) : Int)
theorem allE_ok {xs : List Int} (h : rowErr xs = 0) : allE xs = (placesS xs 0).map (elS xs) := by unfold allE; rw [if_pos h]
theorem allE_no {xs : List Int} (h : rowErr xs ≠ 0) : allE xs = [] := by unfold allE; rw [if_neg h]

set_option maxRecDepth 100000 in
set_option maxHeartbeats 1000000 in
theorem refAll_any (ao : Option Addr) (n cap : Nat) (xs : List Int) (w : World) (hs : Src w ao n cap xs) (hN : (n : Int) ≤ 4398046511104) :
    Calls Tryz.prog 127 #[.slice ao n cap] w fun e w' => ∃ a m c, e = .returned (.tuple #[.slice a m c, .int .i64 (allQ xs), .int .i64 (rowErr xs)]) ∧ ElsN w' w.heap.size a m c (allE xs) ∧ Below w.heap.size w w' := by
  have h1 : Hid (Calls Tryz.prog 154 #[.slice ao n cap] w fun e w' => ∃ a1 a2 c1 c2 K, e = .returned (.tuple #[.slice a1 K c1, .slice a2 K c2, .int .i64 (allQ xs), .int .i64 (rowErr xs)]) ∧ ElsN w' w.heap.size a1 K c1 ((placesS xs 0).map (elS xs)) ∧ Below w.heap.size w w') := by
    refine (refRow_any ao n cap xs w hs hN).mono ?_
    rintro e w1 ⟨a1, a2, c1, c2, K, cs, err, rfl, hK, hR, rfl, _, B1⟩
    exact ⟨a1, a2, c1, c2, K, rfl, hR.els hs.hbyt hK.symm, B1⟩
  have HO : Hid (rowErr xs = 0 → allE xs = (placesS xs 0).map (elS xs)) := allE_ok
  have HN : Hid (rowErr xs ≠ 0 → allE xs = []) := allE_no
  clear hs
  generalize allQ xs = q at *
  generalize (placesS xs 0).map (elS xs) = es at *
  generalize rowErr xs = er at *
  generalize allE xs = al at *
  go_enter Tryz.func127, Tryz.ntmps127
  go_wp2_with fail
  refine h1.out.mono ?_
  rintro e w1 ⟨a1, a2, c1, c2, K, rfl, hE0, B1⟩
  have hE := hide hE0
  clear h1 hE0
  by_cases he : er = 0
  · subst he
    have h0 : ((0 : Int) != 0) = false := rfl
    obtain rfl := HO.out rfl
    go_wp2
    refine bodyPost_ret (v := .tuple #[.slice a1 K c1, .int .i64 q, .int .i64 0]) (by simp [results, Tryz.results127, go_sem]) rfl ⟨a1, K, c1, rfl, hE.out, B1⟩
  · have h0 : (er != 0) = true := by simpa using he
    obtain rfl := HN.out he
    go_wp2
    refine bodyPost_ret (v := .tuple #[.slice none 0 0, .int .i64 q, .int .i64 er]) (by simp [results, Tryz.results127, go_sem]) rfl ⟨none, 0, 0, rfl, ElsN.nil _ _, B1⟩

set_option maxRecDepth 100000 in
set_option maxHeartbeats 2000000 in
theorem inside_any (ao : Option Addr) (n cap : Nat) (xs : List Int) (tag : Int) (w : World) (hs : Src w ao n cap xs) (hN : n ≤ 1048576) :
    Calls Tryz.prog 90 #[.slice ao n cap, .int .i64 tag] w fun e w' => ∃ a m c, e = .returned (.tuple #[.slice a m c, .bool (insS xs tag).isSome]) ∧ ElsN w' w.heap.size a m c ((insS xs tag).getD []) ∧ m ≤ 1048576 ∧ Below w.heap.size w w' := by
  have h1 := hide (refOne_any ao n cap xs w hs (by omega))
  have HB := hide (oneS_byte xs hs.hbyt)
  have HL : Hid ((oneS xs).2.1.length ≤ n) := by have := one_len xs; rw [hs.hlen] at this; exact this
  have HI : Hid (insS xs tag = if (oneS xs).2.2 = 0 ∧ (oneS xs).1 = tag ∧ rowErr (oneS xs).2.1 = 0 then some ((placesS (oneS xs).2.1 0).map (elS (oneS xs).2.1)) else none) := rfl
  clear hs
  generalize insS xs tag = I at HI ⊢
  go_enter Tryz.func90, Tryz.ntmps90
  go_wp2_with fail
  refine h1.out.mono ?_
  rintro e w1 ⟨a1, m1, c1, rfl, o1, B1⟩
  generalize (oneS xs).2.2 = er at HI ⊢
  generalize (oneS xs).1 = t1 at HI ⊢
  generalize (oneS xs).2.1 = X at HI HB HL o1
  have s1 := o1.toSrc HB.out
  have hm1 := s1.hlen
  have bA := nbelow w1 (.cells #[.int .i64 t1, .slice a1 m1 c1] 74)
  have cA : (w1.alloc (.cells #[.int .i64 t1, .slice a1 m1 c1] 74)).cell? ⟨w1.heap.size, 0, none⟩ = some (.int .i64 t1) := by simp
  have cB : (w1.alloc (.cells #[.int .i64 t1, .slice a1 m1 c1] 74)).cell? ⟨w1.heap.size, 1, none⟩ = some (.slice a1 m1 c1) := by simp
  have BA := B1.trans (bA.mono B1.size)
  have h2 := hide (refAll_any a1 m1 c1 X _ (s1.below bA) (by have := HL.out; omega))
  clear h1 o1 s1 bA
  by_cases h0 : er = 0
  · by_cases ht : t1 = tag
    · subst h0 ht
      have e0 : ((0 : Int) != 0) = false := rfl
      have e1 : (t1 != t1) = false := by simp
      go_wp2_with fail
      refine h2.out.mono ?_
      rintro e w2 ⟨a2, m2, c2, rfl, hE, B2⟩
      have hml : Hid (m2 ≤ 1048576) := by
        have h3 := hE.hl
        have h4 := HL.out
        unfold allE at h3
        split at h3
        · rw [List.length_map] at h3
          have := placesN_len X (X.length - 0) 0
          unfold placesS at h3
          unfold Hid; omega
        · simp at h3; unfold Hid; omega
      have HO : Hid (rowErr X = 0 → allE X = (placesS X 0).map (elS X)) := allE_ok
      have HN : Hid (rowErr X ≠ 0 → allE X = []) := allE_no
      generalize allQ X = q
      generalize allE X = al at HO HN hE
      generalize rowErr X = rr at HI HO HN ⊢
      have HE := hide (hE.rebase BA.size)
      clear hE h2 cA cB
      have hI2 : Hid (I.isSome = (rr == 0)) := by
        unfold Hid
        rw [HI.out]
        by_cases hr : rr = 0
        · rw [if_pos (by simp [hr]), hr]; rfl
        · rw [if_neg (by simp [hr])]; simp [hr]
      have hI3 : Hid (I.getD [] = al) := by
        unfold Hid
        rw [HI.out]
        by_cases hr : rr = 0
        · rw [if_pos (by simp [hr]), HO.out hr]; rfl
        · rw [if_neg (by simp [hr]), HN.out hr]; rfl
      go_wp2
      refine bodyPost_ret (v := .tuple #[.slice a2 m2 c2, .bool (rr == 0)]) (by simp [results, Tryz.results90, go_sem]) rfl ⟨a2, m2, c2, by rw [hI2.out], by rw [hI3.out]; exact HE.out, hml.out, BA.trans (B2.mono BA.size)⟩
    · subst h0
      have e0 : ((0 : Int) != 0) = false := rfl
      have e1 : (t1 != tag) = true := by simpa using ht
      have hI : I = none := by rw [HI.out, if_neg (fun h => ht h.2.1)]
      subst hI
      clear h2 HI
      go_wp2
      refine bodyPost_ret (v := .tuple #[.slice none 0 0, .bool false]) (by simp [results, Tryz.results90, go_sem]) rfl ⟨none, 0, 0, rfl, ElsN.nil _ _, by omega, BA⟩
  · have e0 : (er != 0) = true := by simpa using h0
    have hI : I = none := by rw [HI.out, if_neg (fun h => h0 h.1)]
    subst hI
    clear h2 HI
    go_wp2
    refine bodyPost_ret (v := .tuple #[.slice none 0 0, .bool false]) (by simp [results, Tryz.results90, go_sem]) rfl ⟨none, 0, 0, rfl, ElsN.nil _ _, by omega, BA⟩

end Go.Proofs.YtklchpdpooikdaaGreatDoor

namespace Go.Proofs.YtklchpdpooikdaaGreatDoor
open Go.RowKit Go.IntWalk Go.Shelf

theorem OwnA.alloc {w : World} {base : Nat} {v : Value} {xs : List (Int × ByteArray)} (h : OwnA w base v xs) (o : Obj) : OwnA (w.alloc o) base v xs := World.ownsRow.alloc h o
theorem mark_src (w : World) : Ats (w.alloc (.cells #[.int .i64 77, .string ⟨#[]⟩] 111)) (some ⟨w.heap.size, 0, none⟩) 1 1 [(77, ByteArray.empty)] := by
  refine ⟨rfl, Nat.le_refl _, by decide, by intro x hx; simp at hx; subst hx; decide, fun _ => ⟨w.heap.size, 0, rfl, fun i hi => ?_⟩⟩
  obtain rfl : i = 0 := by omega
  exact ⟨by simp, by simp; rfl⟩

end Go.Proofs.YtklchpdpooikdaaGreatDoor

namespace Go.Proofs.YtklchpdpooikdaaGreatDoor
open Go.RowKit Go.IntWalk Go.Shelf

theorem run_appA (w : World) (ty : TypeId) (base : Nat) (v : Value) (xs : List (Int × ByteArray)) (hown : OwnA w base v xs) (ad : Addr) (c : Nat) (t : Int) (s : ByteArray) (hsrc : Ats w (some ad) 1 c [(t, s)]) (k : Nat) (hk : xs.length + 1 = k) (hb : k ≤ 2097152) (hbase : base ≤ w.heap.size) :
    ∃ g c' w', (Builtin.append_ #[61, 61] ty #[v, .slice (some ad) 1 c]).run Tryz.prog w = .ok (.slice (some ⟨g, 0, none⟩) k c') w' ∧ OwnA w' base (.slice (some ⟨g, 0, none⟩) k c') (xs ++ [(t, s)]) ∧
      base ≤ g ∧ c' ≤ maxLen ∧ k ≤ c' ∧ w.grownBy w' v.ownBlock ∧ (v.ownBlock = some g ∨ g = w.heap.size) := by
  subst hk
  obtain ⟨i0, hi, hz0, hz1, hz2⟩ := info_parts Tryz.infoA
  have hly : (xs ++ [(t, s)]).length = xs.length + 1 := by rw [List.length_append]; rfl
  obtain ⟨v', w', h0, h1, h2, h3, h4⟩ := run_append_own_at (w := w) base 61 ty 111 i0 _ 2 24 Tryz.underlying61 hi hz0 hz1 hz2 rfl (by decide) v _ _ hown ad 1 c (acells [(t, s)]) rfl hsrc.src (acells_one _) (by unfold maxLen; omega) (by omega) hbase
  have h1' := h1
  obtain ⟨_, ⟨h5, h6⟩ | ⟨g, cap, cur, hv, hb', _, hn, hmx, _⟩⟩ := h1'
  · exact absurd (h3.1 h5).2 (by omega)
  · subst hv
    refine ⟨g, cap, w', h0, ?_, hb', hmx, hn, h2, ?_⟩
    · unfold OwnA
      rw [hly, acells_app]
      exact h1
    · rcases h4 with h4 | h4
      · exact .inl h4.symm
      · exact .inr (by simpa [Value.ownBlock] using h4)
theorem OwnA.nil (w : World) (base : Nat) : OwnA w base (.slice none 0 0) [] := World.ownsRow_nil _ _ _ _
theorem OwnA.ats {w : World} {base : Nat} {a : Option Addr} {n c : Nat} {xs : List (Int × ByteArray)} (h : OwnA w base (.slice a n c) xs) (hz : ∀ x ∈ xs, x.2.size ≤ 1048576) : Ats w a n c xs := by
  have h' := h
  obtain ⟨h1, ⟨h2, h3⟩ | ⟨g, cap, cur, h2, h3, h4, h5, h6, h7⟩⟩ := h'
  · cases h2
    have hx : xs = [] := by
      have := acells_len xs
      rw [h3] at this
      exact List.eq_nil_of_length_eq_zero (by simp at this; omega)
    subst hx
    exact ⟨rfl, Nat.le_refl _, by decide, by simp, fun h => absurd h (by omega)⟩
  · have e := Value.slice.inj h2
    obtain ⟨rfl, rfl, rfl⟩ := e
    refine ⟨rfl, h5, h6, fun x hx => by have := hz x hx; omega, fun _ => ⟨g, 0, rfl, fun i hi => ?_⟩⟩
    rw [Nat.zero_add]
    exact h.cell i hi
theorem OwnA.rebase {w : World} {base base' : Nat} {v : Value} {xs : List (Int × ByteArray)} (h : OwnA w base v xs) (hb : base' ≤ base) : OwnA w base' v xs := by
  obtain ⟨hl, h⟩ := h
  refine ⟨hl, ?_⟩
  rcases h with h | ⟨g, cap, cur, rfl, hbg, r⟩
  · exact .inl h
  · exact .inr ⟨g, cap, cur, rfl, by omega, r⟩
theorem OwnA.nils {w : World} {base : Nat} {n c : Nat} {xs : List (Int × ByteArray)} (h : OwnA w base (.slice none n c) xs) : n = 0 ∧ c = 0 := by
  obtain ⟨h1, ⟨h2, h3⟩ | ⟨g, cap, cur, h2, _⟩⟩ := h
  · cases h2; exact ⟨rfl, rfl⟩
  · cases h2
theorem OwnA.below {w w' : World} {base : Nat} {v : Value} {xs : List (Int × ByteArray)} (h : OwnA w base v xs) (hb : Below w.heap.size w w') : OwnA w' base v xs := row_below h hb

theorem cont_len (X : List Int) : (contS X).length ≤ X.length := by
  unfold contS
  rw [List.length_drop, List.length_take]
  omega
theorem ins_len {X : List Int} {t : Int} {l : List (Int × List Int)} (h : insS X t = some l) : ∀ e ∈ l, e.2.length ≤ X.length := by
  unfold insS at h
  split at h
  · cases h
    intro e he
    obtain ⟨p, _, rfl⟩ := List.mem_map.1 he
    have h1 := cont_len ((oneS X).2.1.drop p)
    have h2 := one_len X
    rw [List.length_drop] at h1
    unfold elS
    simp only []
    omega
  · cases h
theorem str_len (xs : List Int) : (strOfNums xs).size = xs.length := strOfNums_size xs
theorem gsE_len {X : List Int} {a : Int × ByteArray} (h : gsE X = some a) : a.2.size ≤ X.length := by
  unfold gsE at h
  split at h
  · rename_i x y hq
    split at h
    · cases h
      have := ins_len hq y (by simp)
      simp only [str_len]
      exact this
    · cases h
  · cases h
theorem gsL_len : ∀ {l : List (Int × List Int)} {r : List (Int × ByteArray)} {N : Nat}, (∀ e ∈ l, e.2.length ≤ N) → gsL l = some r → r.length = l.length ∧ ∀ x ∈ r, x.2.size ≤ N
  | [], r, N, _, h => by cases h; exact ⟨rfl, by simp⟩
  | e :: l, r, N, hl, h => by
    simp only [gsL] at h
    cases hg : gsE e.2 with
    | none => rw [hg] at h; cases h
    | some a =>
      rw [hg] at h
      cases hr : gsL l with
      | none => rw [hr] at h; cases h
      | some R =>
        rw [hr] at h
        cases h
        obtain ⟨h1, h2⟩ := gsL_len (fun e' he' => hl e' (by simp [he'])) hr
        refine ⟨by simp [h1], fun x hx => ?_⟩
        rcases List.mem_cons.1 hx with rfl | hx
        · have := gsE_len hg; have := hl e (by simp); omega
        · exact h2 x hx
theorem gsN_len (xs : List Int) : ∀ x ∈ gsN xs, x.2.size ≤ xs.length := by
  intro x hx
  unfold gsN at hx
  cases hi : insS xs 48 with
  | none => rw [hi] at hx; simp [gsL] at hx
  | some l =>
    rw [hi] at hx
    simp only [Option.getD_some] at hx
    cases hg : gsL l with
    | none => rw [hg] at hx; simp at hx
    | some r => rw [hg] at hx; exact (gsL_len (ins_len hi) hg).2 x (by simpa using hx)
theorem gsL_snoc : ∀ (es : List (Int × List Int)) (k : Nat) (G : List (Int × ByteArray)) (a : Int × ByteArray), k < es.length → gsL (es.take k) = some G → gsE (es.getD k (0, [])).2 = some a → gsL (es.take (k + 1)) = some (G ++ [a])
  | [], k, _, _, h, _, _ => by simp at h
  | e :: es, 0, G, a, _, h1, h2 => by
    simp [gsL] at h1
    subst h1
    simp at h2
    simp [gsL, h2]
  | e :: es, k + 1, G, a, h, h1, h2 => by
    rw [List.take_succ_cons] at h1 ⊢
    simp only [gsL] at h1 ⊢
    cases hg : gsE e.2 with
    | none => rw [hg] at h1; cases h1
    | some x =>
      rw [hg] at h1
      simp only [] at h1 ⊢
      cases hr : gsL (es.take k) with
      | none => rw [hr] at h1; simp at h1
      | some R =>
        rw [hr] at h1
        simp at h1
        subst h1
        have ih := gsL_snoc es k R a (by simpa using h) hr (by simpa using h2)
        rw [ih]
        simp
theorem gsL_fail : ∀ (es : List (Int × List Int)) (k : Nat), k < es.length → gsE (es.getD k (0, [])).2 = none → gsL es = none
  | [], k, h, _ => by simp at h
  | e :: es, 0, _, h => by simp at h; simp [gsL, h]
  | e :: es, k + 1, h, h2 => by
    have ih := gsL_fail es k (by simpa using h) (by simpa using h2)
    simp only [gsL]
    cases gsE e.2 <;> simp [ih]
theorem dcA_len (X : List Int) : (dcA X).2.size ≤ X.length := by
  unfold dcA
  split
  · simp only [str_len]
    unfold dcV dcP
    have h1 := one_len ((oneS X).2.1.drop (findS (oneS X).2.1).2.2.1.toNat)
    have h2 := one_len X
    rw [List.length_drop] at h1
    omega
  · simp

end Go.Proofs.YtklchpdpooikdaaGreatDoor

namespace Go.Proofs.YtklchpdpooikdaaGreatDoor
open Go.RowKit Go.IntWalk Go.Shelf

theorem putB_one (tag : Int) (xs : List Int) (h1 : isTagB tag = true) (h2 : xs.length ≤ 16777215) : putB tag [xs] = [tag] ++ lenB xs.length ++ xs := by
  unfold putB putS
  rw [if_neg (by simp [h1])]
  simp only [List.flatten_cons, List.flatten_nil, List.append_nil]
  rw [if_neg (by omega)]
  simp
theorem putB_two (tag : Int) (xs ys : List Int) : putB tag [xs, ys] = putB tag [xs ++ ys] := by unfold putB putS; simp

set_option maxRecDepth 100000 in
theorem rnput_any (tag : Int) (ht : isTagB tag = true) (a : Option Addr) (m c : Nat) (xs : List Int) (w : World) (hs : Src w a m c xs) (hm : m ≤ 16777215) :
    Calls Tryz.prog 94 #[.int .i64 tag, .slice a m c] w fun e w' => ∃ g k c', e = .returned (.slice (some ⟨g, 0, none⟩) k c') ∧ OwnB w' w.heap.size (.slice (some ⟨g, 0, none⟩) k c') (putB tag [xs]) ∧ Below w.heap.size w w' := by
  have hb := tag_bd ht
  have e := putB_one tag xs ht (by rw [hs.hlen]; exact hm)
  rw [hs.hlen] at e
  have hC := hide (bytes_any tag a m c xs w hs hb.1 hb.2 (by omega))
  rw [e]
  clear e
  generalize [tag] ++ lenB m ++ xs = P at hC ⊢
  generalize 1 + (lenB m).length + m = k at hC
  go_enter Tryz.func94, Tryz.ntmps94
  go_wp2_with fail
  refine hC.out.mono ?_
  rintro e w1 ⟨g, c', rfl, O1, B1⟩
  go_wp2
  go_ret
  exact ⟨g, k, c', rfl, O1, B1⟩

end Go.Proofs.YtklchpdpooikdaaGreatDoor
