/-
  oid.parts$1, the function that is ranged over: it goes over the parts of a text between its points.
-/
import Derived.Test.YtfcjahdkpjbggaaDoorNumbers
import Derived.Test.YtfcjahdkpjbggaaDoorDecim
import Derived.Test.YtfcjahdkpjbggaaDoorShelfCut
namespace Go.Proofs.YtfcjahdkpjbggaaDoor
open Go.RowKit Go.Shelf Go.IntWalk
attribute [local go_sem] Oper.semAt_some

/-- The bytes ahead of the first point, those behind it, and whether there is one. -/
def cutI : List Int → List Int × List Int × Bool
  | [] => ([], [], false)
  | c :: r => if c = 46 then ([], r, true) else (c :: (cutI r).1, (cutI r).2.1, (cutI r).2.2)

theorem cutI_len : ∀ xs : List Int, (cutI xs).1.length ≤ xs.length ∧ ((cutI xs).2.2 = true → (cutI xs).2.1.length < xs.length) ∧ (∀ y ∈ (cutI xs).1, y ∈ xs) ∧ (∀ y ∈ (cutI xs).2.1, y ∈ xs)
  | [] => by simp [cutI]
  | c :: r => by
    have ih := cutI_len r
    rw [cutI]
    split
    · simp; exact fun y hy => .inr hy
    · refine ⟨by simp; exact ih.1, fun h => Nat.lt_succ_of_lt (ih.2.1 h), ?_, fun y hy => List.mem_cons_of_mem _ (ih.2.2.2 y hy)⟩
      intro y hy
      rcases List.mem_cons.1 hy with rfl | hy
      · simp
      · exact List.mem_cons_of_mem _ (ih.2.2.1 y hy)

theorem cutI_rest : ∀ xs : List Int, (cutI xs).2.1.length ≤ xs.length
  | [] => by simp [cutI]
  | c :: r => by
    rw [cutI]
    split
    · simp
    · exact Nat.le_succ_of_le (cutI_rest r)

theorem parts_in (n : Nat) (s : ByteArray) (w : World) :
    CallsIn Fence.wide n Tryd.prog 18 #[.string s] w fun e w' => e = .returned (.func (.func 28) #[] #[.pointer (some ⟨w.heap.size, 0, none⟩)]) ∧ w' = w.alloc (.cells #[.string s] 9) := by
  refine callsIn_of_wp Tryd.func18 rfl trivial ?_ rfl
  simp only [Tryd.ntmps18, List.size_toArray, List.length_cons, List.length_nil, Nat.reduceAdd, Nat.reduceSub, Array.replicate_succ, Array.replicate_zero, List.push_toArray, List.append_toArray, List.nil_append, List.cons_append]
  gi_wp2
  go_ret
  exact ⟨rfl, rfl⟩

/-- strings.Cut at a point. -/
theorem cut_lists : ∀ xs : List Int, (∀ x ∈ xs, 0 ≤ x ∧ x < 256) → Lib.cut (strOfNums xs).data.toList [46] = ((strOfNums (cutI xs).1).data.toList, (strOfNums (cutI xs).2.1).data.toList, (cutI xs).2.2)
  | [], _ => by simp [strOfNums_data, cutI, Lib.cut, Lib.index]
  | c :: r, hb => by
    have hc := hb c (by simp)
    have ih := cut_lists r (fun x hx => hb x (List.mem_cons_of_mem _ hx))
    simp only [strOfNums_data, List.map_cons] at ih ⊢
    generalize hl : r.map (fun n => UInt8.ofNat n.toNat) = l at ih ⊢
    rw [cutI]
    by_cases h46 : c = 46
    · subst h46
      rw [if_pos rfl]
      simp [Lib.cut, Lib.index, hl]
    · rw [if_neg h46]
      have hne : ((46 : UInt8) == UInt8.ofNat c.toNat) = false := by
        rw [beq_eq_false_iff_ne]
        intro e
        have e2 := congrArg UInt8.toNat e
        rw [UInt8.toNat_ofNat'] at e2
        have e3 : (46 : UInt8).toNat = 46 := rfl
        rw [e3] at e2
        omega
      have hx : Lib.index (UInt8.ofNat c.toNat :: l) [46] = if Lib.index l [46] == -1 then -1 else Lib.index l [46] + 1 := by
        rw [Lib.index]
        simp [List.isPrefixOf, hne]
      have hge := Lib.index_ge l [46]
      simp only [List.map_cons]
      unfold Lib.cut at ih ⊢
      rw [hx]
      by_cases h0 : 0 ≤ Lib.index l [46]
      · rw [if_pos h0] at ih
        have hb1 : (Lib.index l [46] == -1) = false := by rw [beq_eq_false_iff_ne]; omega
        rw [hb1]
        simp only [Bool.false_eq_true, if_false]
        rw [if_pos (by omega)]
        have e1 : (Lib.index l [46] + 1).toNat = (Lib.index l [46]).toNat + 1 := by omega
        rw [e1]
        have i1 := congrArg Prod.fst ih
        have i2 := congrArg (fun p => p.2.1) ih
        have i3 := congrArg (fun p => p.2.2) ih
        simp only at i1 i2 i3
        rw [List.take_succ_cons, i1, ← i2, ← i3]
        simp
      · rw [if_neg h0] at ih
        have hb1 : (Lib.index l [46] == -1) = true := by rw [beq_iff_eq]; omega
        rw [hb1]
        simp only [if_true]
        rw [if_neg (by omega)]
        have i1 := congrArg Prod.fst ih
        have i2 := congrArg (fun p => p.2.1) ih
        have i3 := congrArg (fun p => p.2.2) ih
        simp only at i1 i2 i3
        rw [← i1, ← i2, ← i3]

theorem cut_any (xs : List Int) (hb : ∀ x ∈ xs, 0 ≤ x ∧ x < 256) (hs : xs.length ≤ 1048576) (m : Int) (w : World) (hm : w.cell? ⟨1, 0, none⟩ = some (.int .i64 m)) :
    Calls Tryd.prog 29 #[.string (strOfNums xs), .string ⟨#[46]⟩] w fun e w' => e = .returned (.tuple #[.string (strOfNums (cutI xs).1), .string (strOfNums (cutI xs).2.1), .bool (cutI xs).2.2]) ∧ Drawn w w' := by
  refine (Tryd.strings_Cut (strOfNums xs) ⟨#[46]⟩ m w (by rw [strOfNums_size]; omega) hm).mono ?_
  rintro e w' ⟨rfl, q, rfl⟩
  refine ⟨?_, (Drawn.refl w).more q⟩
  have h := cut_lists xs hb
  have e1 : (⟨#[46]⟩ : ByteArray).data.toList = [46] := rfl
  rw [e1, h]

/-- How much is left to go over. -/
def partM : Value → Value → Nat
  | .string s, .bool true => s.size + 1
  | _, _ => 0

set_option maxRecDepth 100000 in
set_option maxHeartbeats 4000000 in
theorem parts1_in (n : Nat) (hn : 1 ≤ n) (l Bs : Nat) (xs : List Int) (hb : ∀ x ∈ xs, 0 ≤ x ∧ x < 256) (hs : xs.length ≤ 1048576) (m : Int) (J : List Int → World → Prop) (Je Jx : World → Prop) (Jp : List PanicEntry → World → Prop) (W : World)
    (hH : ∀ ys W1, J ys W1 → W1.cell? ⟨1, 0, none⟩ = some (.int .i64 m)) (hB0 : W.cell? ⟨Bs, 0, none⟩ = some (.string (strOfNums xs))) (hDr : ∀ ys W1 W2, J ys W1 → Drawn W1 W2 → J ys W2)
    (hY : ∀ (ys : List Int) W1, J ys W1 → (∀ x ∈ ys, 0 ≤ x ∧ x < 256) → ys.length ≤ 1048576 → YieldAt Fence.wide (n - 1) Tryd.prog l #[.string (strOfNums (cutI ys).1)] W1 fun e W' =>
      (e = .returned (.bool true) ∧ ((cutI ys).2.2 = true → J (cutI ys).2.1 W') ∧ ((cutI ys).2.2 = false → Je W')) ∨ (e = .returned (.bool false) ∧ Jx W') ∨ (∃ ch, e = .panicked ch ∧ Jp ch W'))
    (h0 : J xs W) :
    CallsIn Fence.wide n Tryd.prog 28 #[.func (.yield l) #[] #[], .pointer (some ⟨Bs, 0, none⟩)] W fun e W' =>
      ((∃ v, e = .returned v) ∧ (Je W' ∨ Jx W')) ∨ (∃ ch, e = .panicked ch ∧ Jp ch W') := by
  refine callsIn_of_wp Tryd.func28 rfl trivial ?_ rfl
  simp only [Tryd.ntmps28, List.size_toArray, List.length_cons, List.length_nil, Nat.reduceAdd, Nat.reduceSub, Array.replicate_succ, Array.replicate_zero, List.push_toArray, List.append_toArray, List.nil_append, List.cons_append]
  gi_wp2_with fail
  gi_loopw [3, 4] (fun rest found wr => ∃ (ys : List Int) (b : Bool), rest = .string (strOfNums ys) ∧ found = .bool b ∧ Hid (∀ x ∈ ys, 0 ≤ x ∧ x < 256) ∧ ys.length ≤ 1048576 ∧ Hid (b = true → J ys wr) ∧ Hid (b = false → Je wr)) (fun rest found _ => partM rest found)
  case atStart => exact ⟨xs, true, rfl, rfl, hb, hs, fun _ => h0, fun h => by cases h⟩
  case round =>
    obtain ⟨ys, b, rfl, rfl, hy, hys, hJ, hE⟩ := hrel
    cases b with
    | true =>
      have hJ1 := hide (hJ.out rfl)
      obtain ⟨c1, c2, c3, c4⟩ := cutI_len ys
      have hcut := hide (cut_any ys hy.out hys m wr (hH ys wr hJ1.out))
      have HY := hide (fun W1 (h : J ys W1) => hY ys W1 h hy.out hys)
      have hsz := hide (strOfNums_size ys)
      have hsz2 := hide (strOfNums_size (cutI ys).2.1)
      have hy2 := hide (fun x hx => hy.out x (c4 x hx))
      have hc2 := hide c2
      have hDr' := hide (hDr ys)
      have hlen2 := Nat.le_trans (cutI_rest ys) hys
      clear c1 c2 c3 c4 hY hJ hE
      generalize hq1 : (cutI ys).1 = A at hcut HY
      generalize hq2 : (cutI ys).2.1 = R at hcut HY hsz2 hy2 hc2 hlen2
      generalize hq3 : (cutI ys).2.2 = fd at hcut HY hc2
      clear hq1 hq2 hq3
      gi_wp2_with (refine ⟨trivial, ?_⟩; gi_at_call 29; refine (callsIn_wide.2 hcut.out).mono ?_; rintro e w1 ⟨rfl, D1⟩; obtain ⟨fn, tmps, assign, body, hy, hR⟩ := HY.out w1 (hDr'.out _ _ hJ1.out D1))
      refine hR.mono ?_
      rintro e W3 (⟨rfl, hJ3, hE3⟩ | ⟨rfl, hx⟩ | ⟨ch, rfl, hp⟩)
      · have h3 := hide (And.intro hJ3 hE3)
        have hms : Hid (partM (.string (strOfNums R)) (.bool fd) < partM (.string (strOfNums ys)) (.bool true)) := by
          unfold Hid
          cases fd with
          | true => have := hc2.out rfl; simp only [partM, hsz.out, hsz2.out]; omega
          | false => simp [partM]
        clear hJ3 hE3
        gi_wp2
        exact ⟨⟨R, fd, rfl, rfl, hy2, hlen2, h3.out.1, h3.out.2⟩, hms.out⟩
      · gi_wp2
        refine bodyPost_ret (results_none rfl _ _ _) rfl ?_
        exact .inl ⟨⟨_, rfl⟩, .inr hx⟩
      · exact ⟨rfl, .inr ⟨ch, rfl, hp⟩⟩
    | false =>
      have hE1 := hide (hE.out rfl)
      clear hE hJ
      gi_wp2
      go_end0
      exact .inl ⟨⟨_, rfl⟩, .inl hE1.out⟩

end Go.Proofs.YtfcjahdkpjbggaaDoor
