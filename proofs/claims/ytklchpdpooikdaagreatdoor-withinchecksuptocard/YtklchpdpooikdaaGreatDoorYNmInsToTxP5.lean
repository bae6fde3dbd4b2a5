/-
  bytes.Equal; the document's All, and its inside: the elements in bytes that are one element of a tag.
  The statements' own calls lent, kept, names, works.
  Rows of attributes that grow: append of one, as a step of its own; how long the values are that are read.
  The document's put: the bytes of an element.
  The document's Prints, May and Kind.
-/
import Derived.Lib.Bytes
import Derived.Test.YtklchpdpooikdaaGreatDoorYNmDcdToNmDecM
import Derived.Test.YtklchpdpooikdaaGreatDoorYROneToRRow
import Derived.Test.YtklchpdpooikdaaGreatDoorYTxR2ToNmLent
import Derived.Test.YtklchpdpooikdaaGreatDoorYNmRowToNmThere
import Derived.Test.YtklchpdpooikdaaGreatDoorYNmEncNToTxR1
import Derived.Test.YtklchpdpooikdaaGreatDoorYLenToONum
import Derived.Test.YtklchpdpooikdaaGreatDoorYTxV3ToTxP4
namespace Go.Proofs.YtklchpdpooikdaaGreatDoor
open Go.RowKit Go.IntWalk Go.Shelf

theorem byte_injN : ∀ {xs ys : List Int}, (∀ x ∈ xs, 0 ≤ x ∧ x < 256) → (∀ x ∈ ys, 0 ≤ x ∧ x < 256) → Lib.bytesOf xs = Lib.bytesOf ys → xs = ys
  | [], [], _, _, _ => rfl
  | [], _ :: _, _, _, h => by simp [Lib.bytesOf] at h
  | _ :: _, [], _, _, h => by simp [Lib.bytesOf] at h
  | x :: xs, y :: ys, hx, hy, h => by
    simp only [Lib.bytesOf, List.map_cons, List.cons.injEq] at h
    have hx0 := hx x (by simp)
    have hy0 := hy y (by simp)
    have e : x.toNat % 256 = y.toNat % 256 := by
      have := congrArg UInt8.toNat h.1
      simpa [UInt8.toNat_ofNat'] using this
    have e2 : x = y := by omega
    rw [e2, byte_injN (fun z hz => hx z (by simp [hz])) (fun z hz => hy z (by simp [hz])) h.2]
theorem textN_eq {xs ys : List Int} (hx : ∀ x ∈ xs, 0 ≤ x ∧ x < 256) (hy : ∀ x ∈ ys, 0 ≤ x ∧ x < 256) : ((strOfNums xs).toList == (strOfNums ys).toList) = decide (xs = ys) := by
  by_cases h : xs = ys
  · subst h; simp
  · rw [decide_eq_false h]
    apply beq_eq_false_iff_ne.2
    intro he
    rw [Lib.strOfNums_toList, Lib.strOfNums_toList] at he
    exact h (byte_injN hx hy he)

set_option maxRecDepth 100000 in
theorem equalN_any (a1 : Option Addr) (n1 c1 : Nat) (xs : List Int) (a2 : Option Addr) (n2 c2 : Nat) (ys : List Int) (w : World) (h1 : Src w a1 n1 c1 xs) (h2 : Src w a2 n2 c2 ys) :
    Calls Tryz.prog 122 #[.slice a1 n1 c1, .slice a2 n2 c2] w fun e w' => e = .returned (.bool (decide (xs = ys))) ∧ w' = w := by
  have t1 := h1.text
  have t2 := h2.text
  have he := textN_eq h1.hbyt h2.hbyt
  generalize strOfNums xs = s1 at *
  generalize strOfNums ys = s2 at *
  clear h1 h2
  go_enter Tryz.func122, Tryz.ntmps122
  go_wp2
  go_ret
  exact ⟨by rw [← he]; rfl, rfl⟩

theorem placesN_len (xs : List Int) : ∀ f p, (placesF xs f p).length ≤ f
  | 0, _ => Nat.le_refl _
  | f + 1, p => by
    unfold placesF
    split
    · have := placesN_len xs f (p + (findS (xs.drop p)).2.2.1.toNat)
      simp only [List.length_cons]
      omega
    · simp

structure ElsN (w : World) (base : Nat) (ao : Option Addr) (n cap : Nat) (es : List (Int × List Int)) : Prop where
  hl : es.length = n
  hcap : n ≤ cap
  hmax : cap ≤ maxLen
  hbyt : ∀ e ∈ es, ∀ x ∈ e.2, 0 ≤ x ∧ x < 256
  hrd : 0 < n → ∃ b off, ao = some ⟨b, off, none⟩ ∧ base ≤ b ∧ ∀ i, i < n → ∃ a m c, w.cell? ⟨b, off + i * 2, none⟩ = some (.int .i64 (es.getD i (0, [])).1) ∧ w.cell? ⟨b, off + i * 2 + 1, none⟩ = some (.slice a m c) ∧ OwnB w base (.slice a m c) (es.getD i (0, [])).2
theorem ElsN.below {w w' : World} {base : Nat} {ao : Option Addr} {n cap : Nat} {es : List (Int × List Int)} (h : ElsN w base ao n cap es) (hb : Below w.heap.size w w') : ElsN w' base ao n cap es := by
  refine ⟨h.hl, h.hcap, h.hmax, h.hbyt, fun hn => ?_⟩
  obtain ⟨b, off, he, hbb, hc⟩ := h.hrd hn
  refine ⟨b, off, he, hbb, fun i hi => ?_⟩
  obtain ⟨a, m, c, h1, h2, h3⟩ := hc i hi
  exact ⟨a, m, c, (hb.cell (lt_of_cell h1)).trans h1, (hb.cell (lt_of_cell h2)).trans h2, row_below h3 hb⟩
theorem ElsN.rebase {w : World} {base base' : Nat} {ao : Option Addr} {n cap : Nat} {es : List (Int × List Int)} (h : ElsN w base' ao n cap es) (hb : base ≤ base') : ElsN w base ao n cap es := by
  refine ⟨h.hl, h.hcap, h.hmax, h.hbyt, fun hn => ?_⟩
  obtain ⟨b, off, he, hbb, hc⟩ := h.hrd hn
  refine ⟨b, off, he, by omega, fun i hi => ?_⟩
  obtain ⟨a, m, c, h1, h2, h3⟩ := hc i hi
  exact ⟨a, m, c, h1, h2, OwnB.rebase h3 hb⟩
theorem ElsN.nil (w : World) (base : Nat) : ElsN w base none 0 0 [] := ⟨rfl, Nat.le_refl _, by decide, by simp, fun h => absurd h (by omega)⟩
theorem ematch_at {W : World} {base : Nat} : ∀ {cs : List Value} {es : List (Int × List Int)}, EMatch W base cs es → ∀ i, i < es.length → cs[i * 2]? = some (.int .i64 (es.getD i (0, [])).1) ∧ ∃ a m c, cs[i * 2 + 1]? = some (.slice a m c) ∧ OwnB W base (.slice a m c) (es.getD i (0, [])).2
  | [], [], _, i, h => by simp at h
  | _ :: _ :: _, e :: es, ⟨h1, ⟨a, m, c, h2⟩, h3, h4⟩, i, h => by
    cases i with
    | zero => subst h1 h2; exact ⟨rfl, a, m, c, rfl, h3⟩
    | succ i =>
      have ih := ematch_at h4 i (by simpa using h)
      rw [show (i + 1) * 2 = i * 2 + 1 + 1 by omega]
      simpa using ih
theorem RowSt.els {w : World} {base : Nat} {a1 : Option Addr} {K c1 : Nat} {P : Value} {xs : List Int} {ps : List Nat} {cs : List Value} (h : RowSt w base (.slice a1 K c1) P xs ps cs) (hb : ∀ x ∈ xs, 0 ≤ x ∧ x < 256) (hK : ps.length = K) : ElsN w base a1 K c1 (ps.map (elS xs)) := by
  have hl := h.hl
  rw [hK] at hl
  obtain ⟨h1, ⟨h2, h3⟩ | ⟨g, cap, cur, h2, h3, h4, h5, h6, h7⟩⟩ := hl
  · cases h2
    have hp : ps = [] := List.eq_nil_of_length_eq_zero hK
    subst hp
    exact ElsN.nil w base
  · cases h2
    refine ⟨by rw [List.length_map]; exact hK, h5, h6, fun e he => ?_, fun hn => ⟨g, 0, rfl, h3, fun i hi => ?_⟩⟩
    · obtain ⟨p, _, rfl⟩ := List.mem_map.1 he
      unfold elS
      exact contS_byte _ (fun y hy => hb y (List.mem_of_mem_drop hy))
    · obtain ⟨k1, a, m, c, k2, k3⟩ := ematch_at h.hm i (by rw [List.length_map, hK]; exact hi)
      have e1 := World.ownsRow.cells h.hl (g := g) rfl _ _ k1
      have e2 := World.ownsRow.cells h.hl (g := g) rfl _ _ k2
      rw [add_none, Nat.zero_add] at e1 e2
      rw [Nat.zero_add]
      exact ⟨a, m, c, e1, e2, k3⟩

def allE (xs : List Int) : List (Int × List Int) := if rowErr xs = 0 then (placesS xs 0).map (elS xs) else []
def allQ (xs : List Int) : Int := ((endS xs (placesS xs 0) : Nat) : Int)
theorem allE_ok {xs : List Int} (h : rowErr xs = 0) : allE xs = (placesS xs 0).map (elS xs) := by unfold allE; rw [if_pos h]
theorem allE_no {xs : List Int} (h : rowErr xs ≠ 0) : allE xs = [] := by unfold allE; rw [if_neg h]

set_option maxRecDepth 100000 in
set_option maxHeartbeats 1000000 in
theorem refAll_any (ao : Option Addr) (n cap : Nat) (xs : List Int) (w : World) (hs : Src w ao n cap xs) (hN : (n : Int) ≤ 4398046511104) :
    Calls Tryz.prog 127 #[.slice ao n cap] w fun e w' => ∃ a m c, e = .returned (.tuple #[.slice a m c, .int .i64 (allQ xs), .int .i64 (rowErr xs)]) ∧ ElsN w' w.heap.size a m c (allE xs) ∧ Below w.heap.size w w' := by
  have h1 : Hid (Calls Tryz.prog 154 #[.slice ao n cap] w fun e w' => ∃ a1 a2 c1 c2 K, e = .returned (.tuple #[.slice a1 K c1, .slice a2 K c2, .int .i64 (allQ xs), .int .i64 (rowErr xs)]) ∧ ElsN w' w.heap.size a1 K c1 ((placesS xs 0).map (elS xs)) ∧ Below w.heap.size w w') := by
    refine (refRow_any ao n cap xs w hs hN).mono ?_
    rintro e w1 ⟨a1, a2, c1, c2, K, cs, err, rfl, hK, hR, rfl, _, B1⟩
    exact ⟨a1, a2, c1, c2, K, rfl, hR.els hs.hbyt hK.symm, B1⟩
  have HO : Hid (rowErr xs = 0 → allE xs = (placesS xs 0).map (elS xs)) := allE_ok
  have HN : Hid (rowErr xs ≠ 0 → allE xs = []) := allE_no
  clear hs
  generalize allQ xs = q at *
  generalize (placesS xs 0).map (elS xs) = es at *
  generalize rowErr xs = er at *
  generalize allE xs = al at *
  go_enter Tryz.func127, Tryz.ntmps127
  go_wp2_with fail
  refine h1.out.mono ?_
  rintro e w1 ⟨a1, a2, c1, c2, K, rfl, hE0, B1⟩
  have hE := hide hE0
  clear h1 hE0
  by_cases he : er = 0
  · subst he
    have h0 : ((0 : Int) != 0) = false := rfl
    obtain rfl := HO.out rfl
    go_wp2
    refine bodyPost_ret (v := .tuple #[.slice a1 K c1, .int .i64 q, .int .i64 0]) (by simp [results, Tryz.results127, go_sem]) rfl ⟨a1, K, c1, rfl, hE.out, B1⟩
  · have h0 : (er != 0) = true := by simpa using he
    obtain rfl := HN.out he
    go_wp2
    refine bodyPost_ret (v := .tuple #[.slice none 0 0, .int .i64 q, .int .i64 er]) (by simp [results, Tryz.results127, go_sem]) rfl ⟨none, 0, 0, rfl, ElsN.nil _ _, B1⟩

set_option maxRecDepth 100000 in
set_option maxHeartbeats 2000000 in
theorem inside_any (ao : Option Addr) (n cap : Nat) (xs : List Int) (tag : Int) (w : World) (hs : Src w ao n cap xs) (hN : n ≤ 1048576) :
    Calls Tryz.prog 90 #[.slice ao n cap, .int .i64 tag] w fun e w' => ∃ a m c, e = .returned (.tuple #[.slice a m c, .bool (insS xs tag).isSome]) ∧ ElsN w' w.heap.size a m c ((insS xs tag).getD []) ∧ m ≤ 1048576 ∧ Below w.heap.size w w' := by
  have h1 := hide (refOne_any ao n cap xs w hs (by omega))
  have HB := hide (oneS_byte xs hs.hbyt)
  have HL : Hid ((oneS xs).2.1.length ≤ n) := by have := one_len xs; rw [hs.hlen] at this; exact this
  have HI : Hid (insS xs tag = if (oneS xs).2.2 = 0 ∧ (oneS xs).1 = tag ∧ rowErr (oneS xs).2.1 = 0 then some ((placesS (oneS xs).2.1 0).map (elS (oneS xs).2.1)) else none) := rfl
  clear hs
  generalize insS xs tag = I at HI ⊢
  go_enter Tryz.func90, Tryz.ntmps90
  go_wp2_with fail
  refine h1.out.mono ?_
  rintro e w1 ⟨a1, m1, c1, rfl, o1, B1⟩
  generalize (oneS xs).2.2 = er at HI ⊢
  generalize (oneS xs).1 = t1 at HI ⊢
  generalize (oneS xs).2.1 = X at HI HB HL o1
  have s1 := o1.toSrc HB.out
  have hm1 := s1.hlen
  have bA := nbelow w1 (.cells #[.int .i64 t1, .slice a1 m1 c1] 74)
  have cA : (w1.alloc (.cells #[.int .i64 t1, .slice a1 m1 c1] 74)).cell? ⟨w1.heap.size, 0, none⟩ = some (.int .i64 t1) := by simp
  have cB : (w1.alloc (.cells #[.int .i64 t1, .slice a1 m1 c1] 74)).cell? ⟨w1.heap.size, 1, none⟩ = some (.slice a1 m1 c1) := by simp
  have BA := B1.trans (bA.mono B1.size)
  have h2 := hide (refAll_any a1 m1 c1 X _ (s1.below bA) (by have := HL.out; omega))
  clear h1 o1 s1 bA
  by_cases h0 : er = 0
  · by_cases ht : t1 = tag
    · subst h0 ht
      have e0 : ((0 : Int) != 0) = false := rfl
      have e1 : (t1 != t1) = false := by simp
      go_wp2_with fail
      refine h2.out.mono ?_
      rintro e w2 ⟨a2, m2, c2, rfl, hE, B2⟩
      have hml : Hid (m2 ≤ 1048576) := by
        have h3 := hE.hl
        have h4 := HL.out
        unfold allE at h3
        split at h3
        · rw [List.length_map] at h3
          have := placesN_len X (X.length - 0) 0
          unfold placesS at h3
          unfold Hid; omega
        · simp at h3; unfold Hid; omega
      have HO : Hid (rowErr X = 0 → allE X = (placesS X 0).map (elS X)) := allE_ok
      have HN : Hid (rowErr X ≠ 0 → allE X = []) := allE_no
      generalize allQ X = q
      generalize allE X = al at HO HN hE
      generalize rowErr X = rr at HI HO HN ⊢
      have HE := hide (hE.rebase BA.size)
      clear hE h2 cA cB
      have hI2 : Hid (I.isSome = (rr == 0)) := by
        unfold Hid
        rw [HI.out]
        by_cases hr : rr = 0
        · rw [if_pos (by simp [hr]), hr]; rfl
        · rw [if_neg (by simp [hr])]; simp [hr]
      have hI3 : Hid (I.getD [] = al) := by
        unfold Hid
        rw [HI.out]
        by_cases hr : rr = 0
        · rw [if_pos (by simp [hr]), HO.out hr]; rfl
        · rw [if_neg (by simp [hr]), HN.out hr]; rfl
      go_wp2
      refine bodyPost_ret (v := .tuple #[.slice a2 m2 c2, .bool (rr == 0)]) (by simp [results, Tryz.results90, go_sem]) rfl ⟨a2, m2, c2, by rw [hI2.out], by rw [hI3.out]; exact HE.out, hml.out, BA.trans (B2.mono BA.size)⟩
    · subst h0
      have e0 : ((0 : Int) != 0) = false := rfl
      have e1 : (t1 != tag) = true := by simpa using ht
      have hI : I = none := by rw [HI.out, if_neg (fun h => ht h.2.1)]
      subst hI
      clear h2 HI
      go_wp2
      refine bodyPost_ret (v := .tuple #[.slice none 0 0, .bool false]) (by simp [results, Tryz.results90, go_sem]) rfl ⟨none, 0, 0, rfl, ElsN.nil _ _, by omega, BA⟩
  · have e0 : (er != 0) = true := by simpa using h0
    have hI : I = none := by rw [HI.out, if_neg (fun h => h0 h.1)]
    subst hI
    clear h2 HI
    go_wp2
    refine bodyPost_ret (v := .tuple #[.slice none 0 0, .bool false]) (by simp [results, Tryz.results90, go_sem]) rfl ⟨none, 0, 0, rfl, ElsN.nil _ _, by omega, BA⟩

end Go.Proofs.YtklchpdpooikdaaGreatDoor

namespace Go.Proofs.YtklchpdpooikdaaGreatDoor
open Go.RowKit Go.IntWalk Go.Shelf

theorem OwnA.alloc {w : World} {base : Nat} {v : Value} {xs : List (Int × ByteArray)} (h : OwnA w base v xs) (o : Obj) : OwnA (w.alloc o) base v xs := World.ownsRow.alloc h o
end Go.Proofs.YtklchpdpooikdaaGreatDoor

namespace Go.Proofs.YtklchpdpooikdaaGreatDoor
open Go.RowKit Go.IntWalk Go.Shelf

theorem run_appA (w : World) (ty : TypeId) (base : Nat) (v : Value) (xs : List (Int × ByteArray)) (hown : OwnA w base v xs) (ad : Addr) (c : Nat) (t : Int) (s : ByteArray) (hsrc : Ats w (some ad) 1 c [(t, s)]) (k : Nat) (hk : xs.length + 1 = k) (hb : k ≤ 2097152) (hbase : base ≤ w.heap.size) :
    ∃ g c' w', (Builtin.append_ #[61, 61] ty #[v, .slice (some ad) 1 c]).run Tryz.prog w = .ok (.slice (some ⟨g, 0, none⟩) k c') w' ∧ OwnA w' base (.slice (some ⟨g, 0, none⟩) k c') (xs ++ [(t, s)]) ∧
      base ≤ g ∧ c' ≤ maxLen ∧ k ≤ c' ∧ w.grownBy w' v.ownBlock ∧ (v.ownBlock = some g ∨ g = w.heap.size) := by
  subst hk
  obtain ⟨i0, hi, hz0, hz1, hz2⟩ := info_parts Tryz.infoA
  have hly : (xs ++ [(t, s)]).length = xs.length + 1 := by rw [List.length_append]; rfl
  obtain ⟨v', w', h0, h1, h2, h3, h4⟩ := run_append_own_at (w := w) base 61 ty 111 i0 _ 2 24 Tryz.underlying61 hi hz0 hz1 hz2 rfl (by decide) v _ _ hown ad 1 c (acells [(t, s)]) rfl hsrc.src (acells_one _) (by unfold maxLen; omega) (by omega) hbase
  have h1' := h1
  obtain ⟨_, ⟨h5, h6⟩ | ⟨g, cap, cur, hv, hb', _, hn, hmx, _⟩⟩ := h1'
  · exact absurd (h3.1 h5).2 (by omega)
  · subst hv
    refine ⟨g, cap, w', h0, ?_, hb', hmx, hn, h2, ?_⟩
    · unfold OwnA
      rw [hly, acells_app]
      exact h1
    · rcases h4 with h4 | h4
      · exact .inl h4.symm
      · exact .inr (by simpa [Value.ownBlock] using h4)
theorem OwnA.nil (w : World) (base : Nat) : OwnA w base (.slice none 0 0) [] := World.ownsRow_nil _ _ _ _
theorem OwnA.ats {w : World} {base : Nat} {a : Option Addr} {n c : Nat} {xs : List (Int × ByteArray)} (h : OwnA w base (.slice a n c) xs) (hz : ∀ x ∈ xs, x.2.size ≤ 1048576) : Ats w a n c xs := by
  have h' := h
  obtain ⟨h1, ⟨h2, h3⟩ | ⟨g, cap, cur, h2, h3, h4, h5, h6, h7⟩⟩ := h'
  · cases h2
    have hx : xs = [] := by
      have := acells_len xs
      rw [h3] at this
      exact List.eq_nil_of_length_eq_zero (by simp at this; omega)
    subst hx
    exact ⟨rfl, Nat.le_refl _, by decide, by simp, fun h => absurd h (by omega)⟩
  · have e := Value.slice.inj h2
    obtain ⟨rfl, rfl, rfl⟩ := e
    refine ⟨rfl, h5, h6, fun x hx => by have := hz x hx; omega, fun _ => ⟨g, 0, rfl, fun i hi => ?_⟩⟩
    rw [Nat.zero_add]
    exact h.cell i hi
theorem OwnA.rebase {w : World} {base base' : Nat} {v : Value} {xs : List (Int × ByteArray)} (h : OwnA w base v xs) (hb : base' ≤ base) : OwnA w base' v xs := by
  obtain ⟨hl, h⟩ := h
  refine ⟨hl, ?_⟩
  rcases h with h | ⟨g, cap, cur, rfl, hbg, r⟩
  · exact .inl h
  · exact .inr ⟨g, cap, cur, rfl, by omega, r⟩
theorem OwnA.nils {w : World} {base : Nat} {n c : Nat} {xs : List (Int × ByteArray)} (h : OwnA w base (.slice none n c) xs) : n = 0 ∧ c = 0 := by
  obtain ⟨h1, ⟨h2, h3⟩ | ⟨g, cap, cur, h2, _⟩⟩ := h
  · cases h2; exact ⟨rfl, rfl⟩
  · cases h2
theorem OwnA.below {w w' : World} {base : Nat} {v : Value} {xs : List (Int × ByteArray)} (h : OwnA w base v xs) (hb : Below w.heap.size w w') : OwnA w' base v xs := row_below h hb

theorem cont_len (X : List Int) : (contS X).length ≤ X.length := by
  unfold contS
  rw [List.length_drop, List.length_take]
  omega
theorem ins_len {X : List Int} {t : Int} {l : List (Int × List Int)} (h : insS X t = some l) : ∀ e ∈ l, e.2.length ≤ X.length := by
  unfold insS at h
  split at h
  · cases h
    intro e he
    obtain ⟨p, _, rfl⟩ := List.mem_map.1 he
    have h1 := cont_len ((oneS X).2.1.drop p)
    have h2 := one_len X
    rw [List.length_drop] at h1
    unfold elS
    simp only []
    omega
  · cases h
theorem str_len (xs : List Int) : (strOfNums xs).size = xs.length := strOfNums_size xs
theorem gsE_len {X : List Int} {a : Int × ByteArray} (h : gsE X = some a) : a.2.size ≤ X.length := by
  unfold gsE at h
  split at h
  · rename_i x y hq
    split at h
    · cases h
      have := ins_len hq y (by simp)
      simp only [str_len]
      exact this
    · cases h
  · cases h
theorem gsL_len : ∀ {l : List (Int × List Int)} {r : List (Int × ByteArray)} {N : Nat}, (∀ e ∈ l, e.2.length ≤ N) → gsL l = some r → r.length = l.length ∧ ∀ x ∈ r, x.2.size ≤ N
  | [], r, N, _, h => by cases h; exact ⟨rfl, by simp⟩
  | e :: l, r, N, hl, h => by
    simp only [gsL] at h
    cases hg : gsE e.2 with
    | none => rw [hg] at h; cases h
    | some a =>
      rw [hg] at h
      cases hr : gsL l with
      | none => rw [hr] at h; cases h
      | some R =>
        rw [hr] at h
        cases h
        obtain ⟨h1, h2⟩ := gsL_len (fun e' he' => hl e' (by simp [he'])) hr
        refine ⟨by simp [h1], fun x hx => ?_⟩
        rcases List.mem_cons.1 hx with rfl | hx
        · have := gsE_len hg; have := hl e (by simp); omega
        · exact h2 x hx
theorem gsN_len (xs : List Int) : ∀ x ∈ gsN xs, x.2.size ≤ xs.length := by
  intro x hx
  unfold gsN at hx
  cases hi : insS xs 48 with
  | none => rw [hi] at hx; simp [gsL] at hx
  | some l =>
    rw [hi] at hx
    simp only [Option.getD_some] at hx
    cases hg : gsL l with
    | none => rw [hg] at hx; simp at hx
    | some r => rw [hg] at hx; exact (gsL_len (ins_len hi) hg).2 x (by simpa using hx)
theorem gsL_snoc : ∀ (es : List (Int × List Int)) (k : Nat) (G : List (Int × ByteArray)) (a : Int × ByteArray), k < es.length → gsL (es.take k) = some G → gsE (es.getD k (0, [])).2 = some a → gsL (es.take (k + 1)) = some (G ++ [a])
  | [], k, _, _, h, _, _ => by simp at h
  | e :: es, 0, G, a, _, h1, h2 => by
    simp [gsL] at h1
    subst h1
    simp at h2
    simp [gsL, h2]
  | e :: es, k + 1, G, a, h, h1, h2 => by
    rw [List.take_succ_cons] at h1 ⊢
    simp only [gsL] at h1 ⊢
    cases hg : gsE e.2 with
    | none => rw [hg] at h1; cases h1
    | some x =>
      rw [hg] at h1
      simp only [] at h1 ⊢
      cases hr : gsL (es.take k) with
      | none => rw [hr] at h1; simp at h1
      | some R =>
        rw [hr] at h1
        simp at h1
        subst h1
        have ih := gsL_snoc es k R a (by simpa using h) hr (by simpa using h2)
        rw [ih]
        simp
theorem gsL_fail : ∀ (es : List (Int × List Int)) (k : Nat), k < es.length → gsE (es.getD k (0, [])).2 = none → gsL es = none
  | [], k, h, _ => by simp at h
  | e :: es, 0, _, h => by simp at h; simp [gsL, h]
  | e :: es, k + 1, h, h2 => by
    have ih := gsL_fail es k (by simpa using h) (by simpa using h2)
    simp only [gsL]
    cases gsE e.2 <;> simp [ih]
theorem dcA_len (X : List Int) : (dcA X).2.size ≤ X.length := by
  unfold dcA
  split
  · simp only [str_len]
    unfold dcV dcP
    have h1 := one_len ((oneS X).2.1.drop (findS (oneS X).2.1).2.2.1.toNat)
    have h2 := one_len X
    rw [List.length_drop] at h1
    omega
  · simp

end Go.Proofs.YtklchpdpooikdaaGreatDoor

namespace Go.Proofs.YtklchpdpooikdaaGreatDoor
open Go.RowKit Go.IntWalk Go.Shelf

theorem putB_one (tag : Int) (xs : List Int) (h1 : isTagB tag = true) (h2 : xs.length ≤ 16777215) : putB tag [xs] = [tag] ++ lenB xs.length ++ xs := by
  unfold putB putS
  rw [if_neg (by simp [h1])]
  simp only [List.flatten_cons, List.flatten_nil, List.append_nil]
  rw [if_neg (by omega)]
  simp
theorem putB_two (tag : Int) (xs ys : List Int) : putB tag [xs, ys] = putB tag [xs ++ ys] := by unfold putB putS; simp

set_option maxRecDepth 100000 in
theorem rnput_any (tag : Int) (ht : isTagB tag = true) (a : Option Addr) (m c : Nat) (xs : List Int) (w : World) (hs : Src w a m c xs) (hm : m ≤ 16777215) :
    Calls Tryz.prog 94 #[.int .i64 tag, .slice a m c] w fun e w' => ∃ g k c', e = .returned (.slice (some ⟨g, 0, none⟩) k c') ∧ OwnB w' w.heap.size (.slice (some ⟨g, 0, none⟩) k c') (putB tag [xs]) ∧ Below w.heap.size w w' := by
  have hb := tag_bd ht
  have e := putB_one tag xs ht (by rw [hs.hlen]; exact hm)
  rw [hs.hlen] at e
  have hC := hide (bytes_any tag a m c xs w hs hb.1 hb.2 (by omega))
  rw [e]
  clear e
  generalize [tag] ++ lenB m ++ xs = P at hC ⊢
  generalize 1 + (lenB m).length + m = k at hC
  go_enter Tryz.func94, Tryz.ntmps94
  go_wp2_with fail
  refine hC.out.mono ?_
  rintro e w1 ⟨g, c', rfl, O1, B1⟩
  go_wp2
  go_ret
  exact ⟨g, k, c', rfl, O1, B1⟩

end Go.Proofs.YtklchpdpooikdaaGreatDoor

namespace Go.Proofs.YtklchpdpooikdaaGreatDoor
open Go.RowKit Go.IntWalk

theorem marks_at : ∀ k : Nat, ∀ h : k < marksB.size, (marksB[k]'h).toNat = [32, 39, 40, 41, 43, 44, 45, 46, 47, 58, 61, 63].getD k 0 := by
  intro k h
  have h12 : k < 12 := h
  have : k = 0 ∨ k = 1 ∨ k = 2 ∨ k = 3 ∨ k = 4 ∨ k = 5 ∨ k = 6 ∨ k = 7 ∨ k = 8 ∨ k = 9 ∨ k = 10 ∨ k = 11 := by omega
  rcases this with rfl | rfl | rfl | rfl | rfl | rfl | rfl | rfl | rfl | rfl | rfl | rfl <;> rfl

def marksFrom (k : Nat) : List Nat := [32, 39, 40, 41, 43, 44, 45, 46, 47, 58, 61, 63].drop k

theorem marksFrom_step (k c : Nat) (h : k < 12) : (marksFrom k).contains c = (decide (c = [32, 39, 40, 41, 43, 44, 45, 46, 47, 58, 61, 63].getD k 0) || (marksFrom (k + 1)).contains c) := by
  unfold marksFrom
  have hl : k < [32, 39, 40, 41, 43, 44, 45, 46, 47, 58, 61, 63].length := h
  rw [List.drop_eq_getElem_cons hl, List.contains_cons, List.getD_eq_getElem?_getD, List.getElem?_eq_getElem hl]
  rfl

set_option maxRecDepth 100000 in
set_option maxHeartbeats 2000000 in
theorem prints_any (c : Nat) (hc : c < 256) (w : World) :
    Calls Tryz.prog 157 #[.int .u8 c] w fun e w' => e = .returned (.bool (printN c)) ∧ w' = w := by
  have hP : Hid (printN c = (decide (65 ≤ c ∧ c ≤ 90) || decide (97 ≤ c ∧ c ≤ 122) || decide (48 ≤ c ∧ c ≤ 57) || markN c)) := rfl
  have hA := hide marks_at
  have hM : Hid ((marksFrom 0).contains c = markN c) := rfl
  generalize markN c = M at hP hM
  generalize printN c = R at hP ⊢
  by_cases h1 : (65 ≤ c ∧ c ≤ 90) ∨ (97 ≤ c ∧ c ≤ 122) ∨ (48 ≤ c ∧ c ≤ 57)
  · have hR : R = true := by rw [hP.out]; simp; omega
    subst hR
    clear hP
    go_enter Tryz.func157, Tryz.ntmps157
    go_wp2
    all_goals first
      | (exfalso; omega)
      | (go_ret; exact ⟨rfl, rfl⟩)
  · have hR : Hid (R = M) := by unfold Hid; rw [hP.out, Bool.eq_iff_iff]; cases M <;> simp <;> omega
    clear hP
    have e1 : ¬ ((97 : Int) ≤ c ∧ (c : Int) ≤ 122) := by omega
    have e2 : ¬ ((65 : Int) ≤ c ∧ (c : Int) ≤ 90) := by omega
    have e3 : ¬ ((48 : Int) ≤ c ∧ (c : Int) ≤ 57) := by omega
    go_enter Tryz.func157, Tryz.ntmps157
    have hm : marksB = ⟨#[32, 39, 40, 41, 43, 44, 45, 46, 47, 58, 61, 63]⟩ := rfl
    rw [← hm]
    generalize hm2 : marksB = m at hA
    have hz : m.size = 12 := by rw [← hm2]; rfl
    clear hm hm2
    go_wp2
    · go_loop [4] (fun i => ∃ k : Nat, i = .int .i64 k ∧ k ≤ 12 ∧ Hid (R = (marksFrom k).contains c)) (fun i => 12 - (intOf i).toNat)
      case atStart => exact ⟨0, rfl, by omega, by unfold Hid; rw [hR.out, ← hM.out]⟩
      case round =>
        obtain ⟨k, rfl, hk, hE⟩ := hrel
        by_cases hlt : k < 12
        · have hsz : k < m.size := by omega
          have hb := hA.out k hsz
          have st := hide (marksFrom_step k c hlt)
          generalize [32, 39, 40, 41, 43, 44, 45, 46, 47, 58, 61, 63].getD k 0 = x at hb st
          by_cases he : c = x
          · have hF : Hid (R = true) := by unfold Hid; rw [hE.out, st.out, decide_eq_true he]; rfl
            subst he
            go_wp2
            go_ret
            exact ⟨by rw [hF.out]; rfl, rfl⟩
          · have hF : Hid (R = (marksFrom (k + 1)).contains c) := by unfold Hid; rw [hE.out, st.out, decide_eq_false he]; rfl
            have hq : ((x : Int) == (c : Int)) = false := by simp; omega
            go_wp2
            exact ⟨⟨k + 1, by simp, by omega, hF⟩, by simp [intOf]; omega⟩
        · obtain rfl : k = 12 := by omega
          have hF : Hid (R = false) := hE
          go_wp2
          go_ret
          exact ⟨by rw [hF.out]; rfl, rfl⟩
    · go_loop [4] (fun i => ∃ k : Nat, i = .int .i64 k ∧ k ≤ 12 ∧ Hid (R = (marksFrom k).contains c)) (fun i => 12 - (intOf i).toNat)
      case atStart => exact ⟨0, rfl, by omega, by unfold Hid; rw [hR.out, ← hM.out]⟩
      case round =>
        obtain ⟨k, rfl, hk, hE⟩ := hrel
        by_cases hlt : k < 12
        · have hsz : k < m.size := by omega
          have hb := hA.out k hsz
          have st := hide (marksFrom_step k c hlt)
          generalize [32, 39, 40, 41, 43, 44, 45, 46, 47, 58, 61, 63].getD k 0 = x at hb st
          by_cases he : c = x
          · have hF : Hid (R = true) := by unfold Hid; rw [hE.out, st.out, decide_eq_true he]; rfl
            subst he
            go_wp2
            go_ret
            exact ⟨by rw [hF.out]; rfl, rfl⟩
          · have hF : Hid (R = (marksFrom (k + 1)).contains c) := by unfold Hid; rw [hE.out, st.out, decide_eq_false he]; rfl
            have hq : ((x : Int) == (c : Int)) = false := by simp; omega
            go_wp2
            exact ⟨⟨k + 1, by simp, by omega, hF⟩, by simp [intOf]; omega⟩
        · obtain rfl : k = 12 := by omega
          have hF : Hid (R = false) := hE
          go_wp2
          go_ret
          exact ⟨by rw [hF.out]; rfl, rfl⟩
    · go_loop [4] (fun i => ∃ k : Nat, i = .int .i64 k ∧ k ≤ 12 ∧ Hid (R = (marksFrom k).contains c)) (fun i => 12 - (intOf i).toNat)
      case atStart => exact ⟨0, rfl, by omega, by unfold Hid; rw [hR.out, ← hM.out]⟩
      case round =>
        obtain ⟨k, rfl, hk, hE⟩ := hrel
        by_cases hlt : k < 12
        · have hsz : k < m.size := by omega
          have hb := hA.out k hsz
          have st := hide (marksFrom_step k c hlt)
          generalize [32, 39, 40, 41, 43, 44, 45, 46, 47, 58, 61, 63].getD k 0 = x at hb st
          by_cases he : c = x
          · have hF : Hid (R = true) := by unfold Hid; rw [hE.out, st.out, decide_eq_true he]; rfl
            subst he
            go_wp2
            go_ret
            exact ⟨by rw [hF.out]; rfl, rfl⟩
          · have hF : Hid (R = (marksFrom (k + 1)).contains c) := by unfold Hid; rw [hE.out, st.out, decide_eq_false he]; rfl
            have hq : ((x : Int) == (c : Int)) = false := by simp; omega
            go_wp2
            exact ⟨⟨k + 1, by simp, by omega, hF⟩, by simp [intOf]; omega⟩
        · obtain rfl : k = 12 := by omega
          have hF : Hid (R = false) := hE
          go_wp2
          go_ret
          exact ⟨by rw [hF.out]; rfl, rfl⟩
    · go_loop [4] (fun i => ∃ k : Nat, i = .int .i64 k ∧ k ≤ 12 ∧ Hid (R = (marksFrom k).contains c)) (fun i => 12 - (intOf i).toNat)
      case atStart => exact ⟨0, rfl, by omega, by unfold Hid; rw [hR.out, ← hM.out]⟩
      case round =>
        obtain ⟨k, rfl, hk, hE⟩ := hrel
        by_cases hlt : k < 12
        · have hsz : k < m.size := by omega
          have hb := hA.out k hsz
          have st := hide (marksFrom_step k c hlt)
          generalize [32, 39, 40, 41, 43, 44, 45, 46, 47, 58, 61, 63].getD k 0 = x at hb st
          by_cases he : c = x
          · have hF : Hid (R = true) := by unfold Hid; rw [hE.out, st.out, decide_eq_true he]; rfl
            subst he
            go_wp2
            go_ret
            exact ⟨by rw [hF.out]; rfl, rfl⟩
          · have hF : Hid (R = (marksFrom (k + 1)).contains c) := by unfold Hid; rw [hE.out, st.out, decide_eq_false he]; rfl
            have hq : ((x : Int) == (c : Int)) = false := by simp; omega
            go_wp2
            exact ⟨⟨k + 1, by simp, by omega, hF⟩, by simp [intOf]; omega⟩
        · obtain rfl : k = 12 := by omega
          have hF : Hid (R = false) := hE
          go_wp2
          go_ret
          exact ⟨by rw [hF.out]; rfl, rfl⟩

set_option maxRecDepth 100000 in
set_option maxHeartbeats 2000000 in
theorem refMay_any (k : Int) (s : ByteArray) (hs : s.size ≤ 140737488355328) (w : World) :
    Calls Tryz.prog 131 #[.int .i64 k, .string s] w fun e w' => e = .returned (.bool (mayL k s.data.toList)) ∧ Below w.heap.size w w' := by
  have hl := size_len s
  by_cases h0 : 4096 < s.size
  · have hm : Hid (mayL k s.data.toList = false) := by unfold Hid mayL; rw [if_pos (by omega)]
    have h0' : (4096 : Int) < (s.size : Int) := by omega
    go_enter Tryz.func131, Tryz.ntmps131
    go_wp2
    go_ret
    exact ⟨by rw [hm.out]; rfl, Below.refl _ _⟩
  have h0' : ¬ (4096 : Int) < (s.size : Int) := by omega
  by_cases h1 : k = 12
  · subst h1
    have hm : Hid (mayL 12 s.data.toList = ((validL s.data.toList : Int) == (s.size : Int))) := by
      unfold Hid mayL; rw [if_neg (by omega), if_pos rfl, hl, Bool.eq_iff_iff]; simp; omega
    have hV := hide (fun W => refValid_any s hs W)
    generalize validL s.data.toList = V at hm hV
    go_enter Tryz.func131, Tryz.ntmps131
    go_wp2_with (go_at_call 156; refine (hV.out _).mono ?_; rintro e w2 ⟨rfl, h2⟩; rw [h2])
    go_ret
    exact ⟨by rw [hm.out]; rfl, Below.refl _ _⟩
  by_cases h2 : k = 19
  · subst h2
    have hm : Hid (mayL 19 s.data.toList = s.data.toList.all (fun b => printN b.toNat)) := by unfold Hid mayL; rw [if_neg (by omega), if_neg h1, if_pos rfl]
    go_enter Tryz.func131, Tryz.ntmps131
    go_wp2
    go_loop [5] (fun i => ∃ k : Nat, i = .int .i64 k ∧ k ≤ s.size ∧ Hid (mayL 19 s.data.toList = (s.data.toList.drop k).all (fun b => printN b.toNat))) (fun i => s.size - (intOf i).toNat)
    case atStart => exact ⟨0, rfl, by omega, by unfold Hid; rw [hm.out]; simp⟩
    case round =>
      obtain ⟨k, rfl, hk, hE⟩ := hrel
      by_cases hlt : k < s.size
      · have st := hide (all_step (fun n => printN n) s k hlt)
        have hb := (s[k]'hlt).toNat_lt
        have hP := hide (fun W => prints_any (s[k]'hlt).toNat (by omega) W)
        have hHi := hide (printN_high (s[k]'hlt).toNat)
        have hLo : Hid (printN (s[k]'hlt).toNat = true → (s[k]'hlt).toNat ≤ 127) := fun h => by
          rcases Nat.lt_or_ge (s[k]'hlt).toNat 128 with h2 | h2
          · omega
          · rw [hHi.out h2] at h; cases h
        have hIa : Hid (ia5N (s[k]'hlt).toNat = decide ((s[k]'hlt).toNat < 128)) := rfl
        cases hq : printN (s[k]'hlt).toNat with
        | false =>
          have hF : Hid (mayL 19 s.data.toList = false) := by unfold Hid; rw [hE.out, st.out, hq]; rfl
          try rw [hq] at hP
          try (have hgt : 127 < ((s[k]'hlt).toNat : Int) := by have h := hIa.out; rw [hq] at h; have := of_decide_eq_false h.symm; omega)
          clear hHi hLo st hE hq hIa
          go_wp2_with (go_at_call 157; refine (hP.out _).mono ?_; rintro e w2 ⟨rfl, h2⟩; rw [h2])
          go_ret
          exact ⟨by rw [hF.out]; rfl, Below.refl _ _⟩
        | true =>
          have hF : Hid (mayL 19 s.data.toList = (s.data.toList.drop (k + 1)).all (fun b => printN b.toNat)) := by unfold Hid; rw [hE.out, st.out, hq, Bool.true_and]
          have hle := hLo.out hq
          try rw [hq] at hP
          clear hHi hLo st hE hq hIa
          go_wp2_with (go_at_call 157; refine (hP.out _).mono ?_; rintro e w2 ⟨rfl, h2⟩; rw [h2])
          exact ⟨⟨k + 1, by simp, by omega, hF⟩, by simp [intOf]; omega⟩
      · have hF : Hid (mayL 19 s.data.toList = true) := by unfold Hid; rw [hE.out]; exact all_end (fun n => printN n) s k hlt
        go_wp2
        go_ret
        exact ⟨by rw [hF.out]; rfl, Below.refl _ _⟩
  by_cases h3 : k = 22
  · subst h3
    have hm : Hid (mayL 22 s.data.toList = s.data.toList.all (fun b => ia5N b.toNat)) := by unfold Hid mayL; rw [if_neg (by omega), if_neg h1, if_neg h2, if_pos rfl]
    go_enter Tryz.func131, Tryz.ntmps131
    go_wp2
    go_loop [5] (fun i => ∃ k : Nat, i = .int .i64 k ∧ k ≤ s.size ∧ Hid (mayL 22 s.data.toList = (s.data.toList.drop k).all (fun b => ia5N b.toNat))) (fun i => s.size - (intOf i).toNat)
    case atStart => exact ⟨0, rfl, by omega, by unfold Hid; rw [hm.out]; simp⟩
    case round =>
      obtain ⟨k, rfl, hk, hE⟩ := hrel
      by_cases hlt : k < s.size
      · have st := hide (all_step (fun n => ia5N n) s k hlt)
        have hb := (s[k]'hlt).toNat_lt
        have hP := hide (fun W => prints_any (s[k]'hlt).toNat (by omega) W)
        have hHi := hide (ia5N_high (s[k]'hlt).toNat)
        have hLo : Hid (ia5N (s[k]'hlt).toNat = true → (s[k]'hlt).toNat ≤ 127) := fun h => by
          rcases Nat.lt_or_ge (s[k]'hlt).toNat 128 with h2 | h2
          · omega
          · rw [hHi.out h2] at h; cases h
        have hIa : Hid (ia5N (s[k]'hlt).toNat = decide ((s[k]'hlt).toNat < 128)) := rfl
        cases hq : ia5N (s[k]'hlt).toNat with
        | false =>
          have hF : Hid (mayL 22 s.data.toList = false) := by unfold Hid; rw [hE.out, st.out, hq]; rfl
          try rw [hq] at hP
          try (have hgt : 127 < ((s[k]'hlt).toNat : Int) := by have h := hIa.out; rw [hq] at h; have := of_decide_eq_false h.symm; omega)
          clear hHi hLo st hE hq hIa
          go_wp2_with (go_at_call 157; refine (hP.out _).mono ?_; rintro e w2 ⟨rfl, h2⟩; rw [h2])
          go_ret
          exact ⟨by rw [hF.out]; rfl, Below.refl _ _⟩
        | true =>
          have hF : Hid (mayL 22 s.data.toList = (s.data.toList.drop (k + 1)).all (fun b => ia5N b.toNat)) := by unfold Hid; rw [hE.out, st.out, hq, Bool.true_and]
          have hle := hLo.out hq
          try rw [hq] at hP
          clear hHi hLo st hE hq hIa
          go_wp2_with (go_at_call 157; refine (hP.out _).mono ?_; rintro e w2 ⟨rfl, h2⟩; rw [h2])
          exact ⟨⟨k + 1, by simp, by omega, hF⟩, by simp [intOf]; omega⟩
      · have hF : Hid (mayL 22 s.data.toList = true) := by unfold Hid; rw [hE.out]; exact all_end (fun n => ia5N n) s k hlt
        go_wp2
        go_ret
        exact ⟨by rw [hF.out]; rfl, Below.refl _ _⟩
  · have hm : Hid (mayL k s.data.toList = false) := by unfold Hid mayL; rw [if_neg (by omega), if_neg h1, if_neg h2, if_neg h3]
    have q1 : (k == 12) = false := by simpa using h1
    have q2 : (k == 19) = false := by simpa using h2
    have q3 : (k == 22) = false := by simpa using h3
    have p1 : (k != 12) = true := by simpa using h1
    have p2 : (k != 19) = true := by simpa using h2
    have p3 : (k != 22) = true := by simpa using h3
    clear h1 h2 h3
    go_enter Tryz.func131, Tryz.ntmps131
    go_wp2
    go_ret
    exact ⟨by rw [hm.out]; rfl, Below.refl _ _⟩

set_option maxRecDepth 100000 in
theorem refKind_any (s : ByteArray) (hs : s.size ≤ 140737488355328) (w : World) :
    Calls Tryz.prog 93 #[.string s] w fun e w' => e = .returned (.tuple #[.int .i64 (kindL s.data.toList).1, .int .i64 (kindL s.data.toList).2]) ∧ Below w.heap.size w w' := by
  have m19 := hide (fun W => refMay_any 19 s hs W)
  have m12 := hide (fun W => refMay_any 12 s hs W)
  have hk : Hid (kindL s.data.toList = if mayL 19 s.data.toList = true then (19, 0) else if mayL 12 s.data.toList = true then (12, 0) else (0, 50)) := rfl
  generalize kindL s.data.toList = K at hk ⊢
  generalize mayL 19 s.data.toList = A at hk m19
  generalize mayL 12 s.data.toList = B at hk m12
  cases A with
  | true =>
    obtain rfl : K = (19, 0) := hk.out
    go_enter Tryz.func93, Tryz.ntmps93
    go_wp2_with (go_at_call_of 131 (Value.int .i64 19); refine (m19.out _).mono ?_; rintro e w2 ⟨rfl, h2⟩)
    refine bodyPost_ret (v := .tuple #[.int .i64 19, .int .i64 0]) (by simp [results, Tryz.results93, go_sem]) rfl ⟨rfl, h2⟩
  | false =>
    cases B with
    | true =>
      obtain rfl : K = (12, 0) := hk.out
      go_enter Tryz.func93, Tryz.ntmps93
      go_wp2_with (first | (go_at_call_of 131 (Value.int .i64 19); refine (m19.out _).mono ?_; rintro e w2 ⟨rfl, h2⟩) | (go_at_call_of 131 (Value.int .i64 12); refine (m12.out _).mono ?_; rintro e w3 ⟨rfl, h3⟩))
      refine bodyPost_ret (v := .tuple #[.int .i64 12, .int .i64 0]) (by simp [results, Tryz.results93, go_sem]) rfl ⟨rfl, h2.trans (h3.mono h2.size)⟩
    | false =>
      obtain rfl : K = (0, 50) := hk.out
      go_enter Tryz.func93, Tryz.ntmps93
      go_wp2_with (first | (go_at_call_of 131 (Value.int .i64 19); refine (m19.out _).mono ?_; rintro e w2 ⟨rfl, h2⟩) | (go_at_call_of 131 (Value.int .i64 12); refine (m12.out _).mono ?_; rintro e w3 ⟨rfl, h3⟩))
      refine bodyPost_ret (v := .tuple #[.int .i64 0, .int .i64 50]) (by simp [results, Tryz.results93, go_sem]) rfl ⟨rfl, h2.trans (h3.mono h2.size)⟩

end Go.Proofs.YtklchpdpooikdaaGreatDoor
