/-
  host.Labels, and the function that it answers: it goes over the pieces of a text between its dots.
-/
import Derived.Test.YtfoacocnkdkdeaaGreatDoorHoB
namespace Go.Proofs.YtfoacocnkdkdeaaGreatDoor
open Go.RowKit Go.Shelf Go.IntWalk
attribute [local go_sem] Oper.semAt_some

theorem labels_in (n : Nat) (s : ByteArray) (w : World) :
    CallsIn Fence.wide n Tryz.prog 53 #[.string s] w fun e w' => e = .returned (.func (.func 84) #[] #[.pointer (some ⟨w.heap.size, 0, none⟩)]) ∧ w' = w.alloc (.cells #[.string s] 9) := by
  refine callsIn_of_wp Tryz.func53 rfl trivial ?_ rfl
  simp only [Tryz.ntmps53, List.size_toArray, List.length_cons, List.length_nil, Nat.reduceAdd, Nat.reduceSub, Array.replicate_succ, Array.replicate_zero, List.push_toArray, List.append_toArray, List.nil_append, List.cons_append]
  gi_wp2
  go_ret
  exact ⟨rfl, rfl⟩

theorem cloneH_any (s : ByteArray) (hs : s.size ≤ 140737488355328) (w : World) :
    Calls Tryz.prog 85 #[.string s] w fun e w' => e = .returned (.string s) ∧ Below w.heap.size w w' := by
  have hC := hide (fun W => Tryz.stringslite_Clone s W (by omega))
  go_enter Tryz.func85, Tryz.ntmps85
  go_wp2_with (go_at_call 120; refine (hC.out _).mono ?_; rintro e w2 ⟨rfl, h2⟩)
  go_ret
  exact ⟨rfl, h2⟩

/-- A row of bytes as a text. -/
def tx (l : List UInt8) : ByteArray := ⟨l.toArray⟩
theorem tx_list (l : List UInt8) : (tx l).data.toList = l := rfl
theorem tx_size (l : List UInt8) : (tx l).size = l.length := rfl
theorem tx_of (s : ByteArray) : tx s.data.toList = s := rfl

/-- The library's variable is laid. -/
def ML (w : World) (m : Int) : Prop := w.cell? ⟨3, 0, none⟩ = some (.int .i64 m)
theorem ML.below {w w' : World} {m : Int} (h : ML w m) (hb : Below w.heap.size w w') : ML w' m := (hb.cell (lt_of_cell h)).trans h

/-- strings.Cut at one byte. -/
theorem cut_any (l : List UInt8) (d : UInt8) (hs : l.length ≤ 1048576) (m : Int) (w : World) (hm : ML w m) :
    Calls Tryz.prog 83 #[.string (tx l), .string ⟨#[d]⟩] w fun e w' => e = .returned (.tuple #[.string (tx (cutD d l).1), .string (tx (cutD d l).2.1), .bool (cutD d l).2.2]) ∧ Below w.heap.size w w' := by
  refine (Tryz.strings_Cut (tx l) ⟨#[d]⟩ m w (by rw [tx_size]; omega) hm).mono ?_
  rintro e w' ⟨rfl, q, rfl⟩
  refine ⟨?_, ⟨rfl, rfl, rfl, Nat.le_refl _, fun _ _ => rfl⟩⟩
  have e1 : (⟨#[d]⟩ : ByteArray).data.toList = [d] := rfl
  rw [e1, tx_list, cut_one]
  rfl

/-- How much is left to go over. -/
def labM : Value → Value → Nat
  | .string s, .bool true => s.size + 1
  | _, _ => 0

set_option maxRecDepth 100000 in
set_option maxHeartbeats 4000000 in
theorem labels1_in (n : Nat) (hn : 1 ≤ n) (l Bs : Nat) (s : List UInt8) (hs : s.length ≤ 1048576) (m : Int) (J : List (List UInt8) → World → Prop) (Jx : World → Prop) (W : World)
    (hH : ∀ ws W1, J ws W1 → ML W1 m) (hB0 : W.cell? ⟨Bs, 0, none⟩ = some (.string (tx s))) (hK : ∀ ws W1 W2, J ws W1 → Below W1.heap.size W1 W2 → J ws W2)
    (hY : ∀ (u : List UInt8) (ws : List (List UInt8)) W1, J (u :: ws) W1 → u.length ≤ s.length → YieldAt Fence.wide (n - 1) Tryz.prog l #[.string (tx u)] W1 fun e W' =>
      (e = .returned (.bool true) ∧ J ws W') ∨ (e = .returned (.bool false) ∧ Jx W'))
    (h0 : J (labs s) W) :
    CallsIn Fence.wide n Tryz.prog 84 #[.func (.yield l) #[] #[], .pointer (some ⟨Bs, 0, none⟩)] W fun e W' => (∃ v, e = .returned v) ∧ (J [] W' ∨ Jx W') := by
  refine callsIn_of_wp Tryz.func84 rfl trivial ?_ rfl
  simp only [Tryz.ntmps84, List.size_toArray, List.length_cons, List.length_nil, Nat.reduceAdd, Nat.reduceSub, Array.replicate_succ, Array.replicate_zero, List.push_toArray, List.append_toArray, List.nil_append, List.cons_append]
  gi_wp2_with fail
  gi_loopw [3, 4] (fun rest more wr => ∃ (ys : List UInt8) (b : Bool), rest = .string (tx ys) ∧ more = .bool b ∧ ys.length ≤ s.length ∧ Hid (b = true → J (labs ys) wr) ∧ Hid (b = false → J [] wr)) (fun rest more _ => labM rest more)
  case atStart => exact ⟨s, true, rfl, rfl, Nat.le_refl _, fun _ => h0, fun h => by cases h⟩
  case round =>
    obtain ⟨ys, b, rfl, rfl, hys, hJ, hE⟩ := hrel
    cases b with
    | true =>
      have hJ1 := hide (hJ.out rfl)
      obtain ⟨c1, c2, c3⟩ := cutD_rest 46 ys
      have hcut := hide (cut_any ys 46 (by omega) m wr (hH _ wr hJ1.out))
      have hlab := labs_cut ys
      have hm := hide (fun W1 W2 (h : Below W1.heap.size W1 W2) (h2 : Below wr.heap.size wr W1) => hK _ _ _ (hK _ _ _ hJ1.out h2) h)
      rw [hlab] at hm
      have hcl := hide (fun W => cloneH_any (tx (cutD 46 ys).1) (by rw [tx_size]; omega) W)
      have HY := hide (fun W1 (h : J ((cutD 46 ys).1 :: (if (cutD 46 ys).2.2 = true then labs (cutD 46 ys).2.1 else [])) W1) => hY _ _ W1 h (by omega))
      have hsz := hide (tx_size ys)
      have hsz2 := hide (tx_size (cutD 46 ys).2.1)
      have hc3 := hide c3
      have hle : (cutD 46 ys).2.1.length ≤ s.length := by omega
      clear c1 c2 c3 hY hJ hE hlab
      generalize (cutD 46 ys).1 = A at hcut HY hm hcl
      generalize (cutD 46 ys).2.1 = R at hcut HY hsz2 hc3 hle hm
      generalize (cutD 46 ys).2.2 = fd at hcut HY hc3 hm
      gi_wp2_with (first | (refine ⟨trivial, ?_⟩; gi_at_call 83; refine (callsIn_wide.2 hcut.out).mono ?_; rintro e w1 ⟨rfl, D1⟩) | (refine ⟨trivial, ?_⟩; gi_at_call 85; refine (callsIn_wide.2 (hcl.out _)).mono ?_; rintro e w2 ⟨rfl, D2⟩; obtain ⟨fn, tmps, assign, body, hy, hR⟩ := HY.out w2 (hm.out _ _ D2 D1)))
      refine hR.mono ?_
      rintro e W3 (⟨rfl, hJ3⟩ | ⟨rfl, hx⟩)
      · have h3 := hide hJ3
        have hms : Hid (labM (.string (tx R)) (.bool fd) < labM (.string (tx ys)) (.bool true)) := by
          unfold Hid
          cases fd with
          | true => have := hc3.out rfl; simp only [labM, hsz.out, hsz2.out]; omega
          | false => simp [labM]
        clear hJ3
        gi_wp2
        exact ⟨⟨R, fd, rfl, rfl, hle, fun h => by have := h3.out; rwa [if_pos h] at this, fun h => by have := h3.out; rwa [if_neg (by rw [h]; decide)] at this⟩, hms.out⟩
      · gi_wp2
        refine bodyPost_ret (results_none rfl _ _ _) rfl ?_
        exact ⟨⟨_, rfl⟩, .inr hx⟩
    | false =>
      have hE1 := hide (hE.out rfl)
      clear hE hJ
      gi_wp2
      go_end0
      exact ⟨⟨_, rfl⟩, .inl hE1.out⟩

end Go.Proofs.YtfoacocnkdkdeaaGreatDoor
