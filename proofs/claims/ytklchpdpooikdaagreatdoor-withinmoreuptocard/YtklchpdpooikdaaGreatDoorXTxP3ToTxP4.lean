/-
  May and Kind, both the program's and the document's: of which kind a text is.
  May and Kind, both the program's and the document's: of which kind a text is.
-/
import Derived.Test.YtklchpdpooikdaaGreatDoorXTxV3ToTxP2
namespace Go.Proofs.YtklchpdpooikdaaGreatDoor
open Go.RowKit Go.IntWalk

theorem all_step (p : Nat → Bool) (s : ByteArray) (pos : Nat) (h : pos < s.size) : (s.data.toList.drop pos).all (fun b => p b.toNat) = (p ((s[pos]'h).toNat) && (s.data.toList.drop (pos + 1)).all (fun b => p b.toNat)) := by
  have hl : pos < s.data.toList.length := by rw [Array.length_toList]; exact h
  rw [List.drop_eq_getElem_cons hl, List.all_cons]
  rfl

theorem all_end (p : Nat → Bool) (s : ByteArray) (pos : Nat) (h : ¬ pos < s.size) : (s.data.toList.drop pos).all (fun b => p b.toNat) = true := by
  rw [List.drop_of_length_le (by rw [Array.length_toList]; exact Nat.le_of_not_lt h)]
  rfl


/-- Is a number below 128? -/
def ia5N (r : Nat) : Bool := decide (r < 128)

theorem isIA5_n (r : Nat) (w : World) : Calls Tryz.prog 197 #[.int .i32 r] w fun e w' => e = .returned (.bool (ia5N r)) ∧ Below w.heap.size w w' := isIA5_any r w

theorem ia5N_high (r : Nat) (h : 128 ≤ r) : ia5N r = false := decide_eq_false (by omega)

-- isPrintable: the function; printN: what it asks; isPrintable_any b (by omega) W: its contract; printN_high: its answer beyond 127
set_option maxRecDepth 100000 in
set_option maxHeartbeats 1000000 in
theorem all_isPrintable (s : ByteArray) (hs : s.size ≤ 140737488355328) (w : World) :
    Calls Tryz.prog 195 #[.string s, .func (.func 196) #[] #[]] w fun e w' => e = .returned (.bool (s.data.toList.all (fun b => printN b.toNat))) ∧ Below w.heap.size w w' := by
  go_enter Tryz.func195, Tryz.ntmps195
  go_wp2
  go_loopw [] (fun wr => ∃ pos : Nat, wr.heap[w.heap.size]? = some (.stringIter s pos) ∧ Below w.heap.size w wr ∧ pos ≤ s.size ∧ Hid (s.data.toList.all (fun b => printN b.toNat) = (s.data.toList.drop pos).all (fun b => printN b.toNat))) (fun wr => s.size - wr.iterPos w.heap.size)
  case atStart => exact ⟨0, World.iter_heap _ _ _, below_iter _ _ _, by omega, by unfold Hid; simp⟩
  case round =>
    obtain ⟨pos, hit, hbw, hk, hE⟩ := hrel
    have hme : Hid (wr.iterPos w.heap.size = pos) := by unfold Hid World.iterPos; rw [hit]
    by_cases hp : pos < s.size
    · have hnx : ∀ ty, (Instr.next (.pointer (some ⟨w.heap.size, 0, none⟩)) true ty).run Tryz.prog wr = _ := fun ty => Lib.run_next_any_at wr w.heap.size s pos ty hit hp
      have st := hide (all_step (fun n => printN n) s pos hp)
      have hdl := decode_le s pos
      have hh := decode_high s pos hp
      have ha := decode_ascii s pos hp
      generalize (s[pos]'hp).toNat = b at st hh ha
      have hit2 : Hid (∀ p', (wr.iterAt w.heap.size s p').heap[w.heap.size]? = some (.stringIter s p')) := fun p' => Lib.iterAt_heap wr w.heap.size s pos p' hit
      have hbw2 : Hid (∀ p', Below w.heap.size w (wr.iterAt w.heap.size s p')) := fun p' => Lib.below_iterAt hbw (Nat.le_refl _) s p'
      have hsz : Hid (w.heap.size < wr.heap.size) := (Array.getElem?_eq_some_iff.1 hit).1
      by_cases hb : b < 128
      · rw [ha hb] at hnx
        have hC := hide (fun W => isPrintable_any b (by omega) W)
        have hnx2 : ∀ ty, (Instr.next (.pointer (some ⟨w.heap.size, 0, none⟩)) true ty).run Tryz.prog wr = .ok (.tuple #[.bool true, .int .i64 pos, .int .i32 b]) (wr.iterAt w.heap.size s (pos + 1)) := hnx
        have hi1 := hide (hit2.out (pos + 1))
        have hb1 := hide (hbw2.out (pos + 1))
        have hz1 : Hid (w.heap.size < (wr.iterAt w.heap.size s (pos + 1)).heap.size) := by unfold Hid; rw [Lib.iterAt_size]; exact hsz.out
        clear hnx hit2 hbw2 ha hh hdl hit hbw hsz
        generalize wr.iterAt w.heap.size s (pos + 1) = w1 at hnx2 hi1 hb1 hz1
        cases hq : printN b with
        | false =>
          have hF : Hid (s.data.toList.all (fun b => printN b.toNat) = false) := by unfold Hid; rw [hE.out, st.out, hq]; rfl
          rw [hq] at hC
          go_wp2_with (go_at_call 196; refine (hC.out _).mono ?_; rintro e w2 ⟨rfl, h2⟩)
          go_ret
          exact ⟨by rw [hF.out]; rfl, hb1.out.trans (h2.mono (Nat.le_of_lt hz1.out))⟩
        | true =>
          have hF : Hid (s.data.toList.all (fun b => printN b.toNat) = (s.data.toList.drop (pos + 1)).all (fun b => printN b.toNat)) := by unfold Hid; rw [hE.out, st.out, hq, Bool.true_and]
          rw [hq] at hC
          go_wp2_with (go_at_call 196; refine (hC.out _).mono ?_; rintro e w2 ⟨rfl, h2⟩)
          have hi2 := (h2.block _ hz1.out).trans hi1.out
          go_roundw
          case rel => exact ⟨pos + 1, hi2, hb1.out.trans (h2.mono (Nat.le_of_lt hz1.out)), by omega, hF⟩
          case measure => rw [hme.out]; unfold World.iterPos; rw [hi2]; show s.size - (pos + 1) < s.size - pos; omega
      · have hh2 := hh (by omega)
        have hF : Hid (s.data.toList.all (fun b => printN b.toNat) = false) := by unfold Hid; rw [hE.out, st.out, printN_high b (by omega)]; rfl
        have hgt := hh2.1
        clear hh ha
        generalize hdec : Utf8.decode s pos = D at hnx hdl hgt
        obtain ⟨b', wd⟩ := D
        have hgt : 128 ≤ b' := hgt
        have hq : printN b' = false := printN_high b' hgt
        have hdl : b' ≤ 2147483647 := hdl
        have hC := hide (fun W => (fun (b : Nat) (hle : b ≤ 2147483647) => (isPrintable_any b hle W : Calls Tryz.prog 196 #[.int .i32 b] W fun e w' => e = .returned (.bool (printN b)) ∧ Below W.heap.size W w')) b' hdl)
        rw [hq] at hC
        have hnx2 : ∀ ty, (Instr.next (.pointer (some ⟨w.heap.size, 0, none⟩)) true ty).run Tryz.prog wr = .ok (.tuple #[.bool true, .int .i64 pos, .int .i32 b']) (wr.iterAt w.heap.size s (pos + wd)) := hnx
        have hb1 := hide (hbw2.out (pos + wd))
        have hz1 : Hid (w.heap.size < (wr.iterAt w.heap.size s (pos + wd)).heap.size) := by unfold Hid; rw [Lib.iterAt_size]; exact hsz.out
        clear hnx hit2 hbw2 hit hbw hsz
        generalize wr.iterAt w.heap.size s (pos + wd) = w1 at hnx2 hb1 hz1
        go_wp2_with (go_at_call 196; refine (hC.out _).mono ?_; rintro e w2 ⟨rfl, h2⟩)
        go_ret
        exact ⟨by rw [hF.out]; rfl, hb1.out.trans (h2.mono (Nat.le_of_lt hz1.out))⟩
    · have hnx : ∀ ty, (Instr.next (.pointer (some ⟨w.heap.size, 0, none⟩)) true ty).run Tryz.prog wr = _ := fun ty => Lib.run_next_end_at wr w.heap.size s pos ty hit hp
      have hF : Hid (s.data.toList.all (fun b => printN b.toNat) = true) := by unfold Hid; rw [hE.out]; exact all_end (fun n => printN n) s pos hp
      go_wp2
      go_ret
      exact ⟨by rw [hF.out]; rfl, hbw⟩

-- isIA5: the function; ia5N: what it asks; isIA5_n b W: its contract; ia5N_high: its answer beyond 127
set_option maxRecDepth 100000 in
set_option maxHeartbeats 1000000 in
theorem all_isIA5 (s : ByteArray) (hs : s.size ≤ 140737488355328) (w : World) :
    Calls Tryz.prog 195 #[.string s, .func (.func 197) #[] #[]] w fun e w' => e = .returned (.bool (s.data.toList.all (fun b => ia5N b.toNat))) ∧ Below w.heap.size w w' := by
  go_enter Tryz.func195, Tryz.ntmps195
  go_wp2
  go_loopw [] (fun wr => ∃ pos : Nat, wr.heap[w.heap.size]? = some (.stringIter s pos) ∧ Below w.heap.size w wr ∧ pos ≤ s.size ∧ Hid (s.data.toList.all (fun b => ia5N b.toNat) = (s.data.toList.drop pos).all (fun b => ia5N b.toNat))) (fun wr => s.size - wr.iterPos w.heap.size)
  case atStart => exact ⟨0, World.iter_heap _ _ _, below_iter _ _ _, by omega, by unfold Hid; simp⟩
  case round =>
    obtain ⟨pos, hit, hbw, hk, hE⟩ := hrel
    have hme : Hid (wr.iterPos w.heap.size = pos) := by unfold Hid World.iterPos; rw [hit]
    by_cases hp : pos < s.size
    · have hnx : ∀ ty, (Instr.next (.pointer (some ⟨w.heap.size, 0, none⟩)) true ty).run Tryz.prog wr = _ := fun ty => Lib.run_next_any_at wr w.heap.size s pos ty hit hp
      have st := hide (all_step (fun n => ia5N n) s pos hp)
      have hdl := decode_le s pos
      have hh := decode_high s pos hp
      have ha := decode_ascii s pos hp
      generalize (s[pos]'hp).toNat = b at st hh ha
      have hit2 : Hid (∀ p', (wr.iterAt w.heap.size s p').heap[w.heap.size]? = some (.stringIter s p')) := fun p' => Lib.iterAt_heap wr w.heap.size s pos p' hit
      have hbw2 : Hid (∀ p', Below w.heap.size w (wr.iterAt w.heap.size s p')) := fun p' => Lib.below_iterAt hbw (Nat.le_refl _) s p'
      have hsz : Hid (w.heap.size < wr.heap.size) := (Array.getElem?_eq_some_iff.1 hit).1
      by_cases hb : b < 128
      · rw [ha hb] at hnx
        have hC := hide (fun W => isIA5_n b W)
        have hnx2 : ∀ ty, (Instr.next (.pointer (some ⟨w.heap.size, 0, none⟩)) true ty).run Tryz.prog wr = .ok (.tuple #[.bool true, .int .i64 pos, .int .i32 b]) (wr.iterAt w.heap.size s (pos + 1)) := hnx
        have hi1 := hide (hit2.out (pos + 1))
        have hb1 := hide (hbw2.out (pos + 1))
        have hz1 : Hid (w.heap.size < (wr.iterAt w.heap.size s (pos + 1)).heap.size) := by unfold Hid; rw [Lib.iterAt_size]; exact hsz.out
        clear hnx hit2 hbw2 ha hh hdl hit hbw hsz
        generalize wr.iterAt w.heap.size s (pos + 1) = w1 at hnx2 hi1 hb1 hz1
        cases hq : ia5N b with
        | false =>
          have hF : Hid (s.data.toList.all (fun b => ia5N b.toNat) = false) := by unfold Hid; rw [hE.out, st.out, hq]; rfl
          rw [hq] at hC
          go_wp2_with (go_at_call 197; refine (hC.out _).mono ?_; rintro e w2 ⟨rfl, h2⟩)
          go_ret
          exact ⟨by rw [hF.out]; rfl, hb1.out.trans (h2.mono (Nat.le_of_lt hz1.out))⟩
        | true =>
          have hF : Hid (s.data.toList.all (fun b => ia5N b.toNat) = (s.data.toList.drop (pos + 1)).all (fun b => ia5N b.toNat)) := by unfold Hid; rw [hE.out, st.out, hq, Bool.true_and]
          rw [hq] at hC
          go_wp2_with (go_at_call 197; refine (hC.out _).mono ?_; rintro e w2 ⟨rfl, h2⟩)
          have hi2 := (h2.block _ hz1.out).trans hi1.out
          go_roundw
          case rel => exact ⟨pos + 1, hi2, hb1.out.trans (h2.mono (Nat.le_of_lt hz1.out)), by omega, hF⟩
          case measure => rw [hme.out]; unfold World.iterPos; rw [hi2]; show s.size - (pos + 1) < s.size - pos; omega
      · have hh2 := hh (by omega)
        have hF : Hid (s.data.toList.all (fun b => ia5N b.toNat) = false) := by unfold Hid; rw [hE.out, st.out, ia5N_high b (by omega)]; rfl
        have hgt := hh2.1
        clear hh ha
        generalize hdec : Utf8.decode s pos = D at hnx hdl hgt
        obtain ⟨b', wd⟩ := D
        have hgt : 128 ≤ b' := hgt
        have hq : ia5N b' = false := ia5N_high b' hgt
        have hdl : b' ≤ 2147483647 := hdl
        have hC := hide (fun W => (fun (b : Nat) (hle : b ≤ 2147483647) => (isIA5_n b W : Calls Tryz.prog 197 #[.int .i32 b] W fun e w' => e = .returned (.bool (ia5N b)) ∧ Below W.heap.size W w')) b' hdl)
        rw [hq] at hC
        have hnx2 : ∀ ty, (Instr.next (.pointer (some ⟨w.heap.size, 0, none⟩)) true ty).run Tryz.prog wr = .ok (.tuple #[.bool true, .int .i64 pos, .int .i32 b']) (wr.iterAt w.heap.size s (pos + wd)) := hnx
        have hb1 := hide (hbw2.out (pos + wd))
        have hz1 : Hid (w.heap.size < (wr.iterAt w.heap.size s (pos + wd)).heap.size) := by unfold Hid; rw [Lib.iterAt_size]; exact hsz.out
        clear hnx hit2 hbw2 hit hbw hsz
        generalize wr.iterAt w.heap.size s (pos + wd) = w1 at hnx2 hb1 hz1
        go_wp2_with (go_at_call 197; refine (hC.out _).mono ?_; rintro e w2 ⟨rfl, h2⟩)
        go_ret
        exact ⟨by rw [hF.out]; rfl, hb1.out.trans (h2.mono (Nat.le_of_lt hz1.out))⟩
    · have hnx : ∀ ty, (Instr.next (.pointer (some ⟨w.heap.size, 0, none⟩)) true ty).run Tryz.prog wr = _ := fun ty => Lib.run_next_end_at wr w.heap.size s pos ty hit hp
      have hF : Hid (s.data.toList.all (fun b => ia5N b.toNat) = true) := by unfold Hid; rw [hE.out]; exact all_end (fun n => ia5N n) s pos hp
      go_wp2
      go_ret
      exact ⟨by rw [hF.out]; rfl, hbw⟩

end Go.Proofs.YtklchpdpooikdaaGreatDoor

namespace Go.Proofs.YtklchpdpooikdaaGreatDoor
open Go.RowKit Go.IntWalk

/-- Is a row of bytes a text of a kind? -/
def mayL (k : Int) (l : List UInt8) : Bool :=
  if 4096 < l.length then false else if k = 12 then decide (validL l = l.length) else if k = 19 then l.all (fun b => printN b.toNat) else if k = 22 then l.all (fun b => ia5N b.toNat) else false

/-- Of which kind a row of bytes is written, or that it is no text. -/
def kindL (l : List UInt8) : Int × Int := if mayL 19 l = true then (19, 0) else if mayL 12 l = true then (12, 0) else (0, 50)

theorem size_len (s : ByteArray) : s.data.toList.length = s.size := by rw [Array.length_toList]; rfl

set_option maxRecDepth 100000 in
set_option maxHeartbeats 1000000 in
theorem may_any (k : Int) (s : ByteArray) (hs : s.size ≤ 140737488355328) (w : World) :
    Calls Tryz.prog 182 #[.int .i64 k, .string s] w fun e w' => e = .returned (.bool (mayL k s.data.toList)) ∧ Below w.heap.size w w' := by
  have hl := size_len s
  by_cases h0 : 4096 < s.size
  · have hm : Hid (mayL k s.data.toList = false) := by unfold Hid mayL; rw [if_pos (by omega)]
    have h0' : (4096 : Int) < (s.size : Int) := by omega
    go_enter Tryz.func182, Tryz.ntmps182
    go_wp2
    go_ret
    exact ⟨by rw [hm.out]; rfl, Below.refl _ _⟩
  have h0' : ¬ (4096 : Int) < (s.size : Int) := by omega
  by_cases h1 : k = 12
  · subst h1
    have hm : Hid (mayL 12 s.data.toList = ((validL s.data.toList : Int) == (s.size : Int))) := by
      unfold Hid mayL; rw [if_neg (by omega), if_pos rfl, hl, Bool.eq_iff_iff]; simp; omega
    have hV := hide (fun W => valid_any s hs W)
    generalize validL s.data.toList = V at hm hV
    go_enter Tryz.func182, Tryz.ntmps182
    go_wp2_with (go_at_call 194; refine (hV.out _).mono ?_; rintro e w2 ⟨rfl, h2⟩)
    go_ret
    exact ⟨by rw [hm.out]; rfl, h2⟩
  by_cases h2 : k = 19
  · subst h2
    have hm : Hid (mayL 19 s.data.toList = s.data.toList.all (fun b => printN b.toNat)) := by unfold Hid mayL; rw [if_neg (by omega), if_neg h1, if_pos rfl]
    have hV := hide (fun W => all_isPrintable s hs W)
    generalize s.data.toList.all (fun b => printN b.toNat) = V at hm hV
    go_enter Tryz.func182, Tryz.ntmps182
    go_wp2_with (go_at_call 195; refine (hV.out _).mono ?_; rintro e w2 ⟨rfl, h2⟩)
    go_ret
    exact ⟨by rw [hm.out]; rfl, h2⟩
  by_cases h3 : k = 22
  · subst h3
    have hm : Hid (mayL 22 s.data.toList = s.data.toList.all (fun b => ia5N b.toNat)) := by unfold Hid mayL; rw [if_neg (by omega), if_neg h1, if_neg h2, if_pos rfl]
    have hV := hide (fun W => all_isIA5 s hs W)
    generalize s.data.toList.all (fun b => ia5N b.toNat) = V at hm hV
    go_enter Tryz.func182, Tryz.ntmps182
    go_wp2_with (go_at_call 195; refine (hV.out _).mono ?_; rintro e w2 ⟨rfl, h2⟩)
    go_ret
    exact ⟨by rw [hm.out]; rfl, h2⟩
  · have hm : Hid (mayL k s.data.toList = false) := by unfold Hid mayL; rw [if_neg (by omega), if_neg h1, if_neg h2, if_neg h3]
    have q1 : (k == 12) = false := by simpa using h1
    have q2 : (k == 19) = false := by simpa using h2
    have q3 : (k == 22) = false := by simpa using h3
    clear h1 h2 h3
    go_enter Tryz.func182, Tryz.ntmps182
    go_wp2
    go_ret
    exact ⟨by rw [hm.out]; rfl, Below.refl _ _⟩

set_option maxRecDepth 100000 in
theorem kind_any (s : ByteArray) (hs : s.size ≤ 140737488355328) (w : World) :
    Calls Tryz.prog 173 #[.string s] w fun e w' => e = .returned (.tuple #[.int .i64 (kindL s.data.toList).1, .int .i64 (kindL s.data.toList).2]) ∧ Below w.heap.size w w' := by
  have m19 := hide (fun W => may_any 19 s hs W)
  have m12 := hide (fun W => may_any 12 s hs W)
  have hk : Hid (kindL s.data.toList = if mayL 19 s.data.toList = true then (19, 0) else if mayL 12 s.data.toList = true then (12, 0) else (0, 50)) := rfl
  generalize kindL s.data.toList = K at hk ⊢
  generalize mayL 19 s.data.toList = A at hk m19
  generalize mayL 12 s.data.toList = B at hk m12
  cases A with
  | true =>
    obtain rfl : K = (19, 0) := hk.out
    go_enter Tryz.func173, Tryz.ntmps173
    go_wp2_with (go_at_call_of 182 (Value.int .i64 19); refine (m19.out _).mono ?_; rintro e w2 ⟨rfl, h2⟩)
    refine bodyPost_ret (v := .tuple #[.int .i64 19, .int .i64 0]) (by simp [results, Tryz.results173, go_sem]) rfl ⟨rfl, h2⟩
  | false =>
    cases B with
    | true =>
      obtain rfl : K = (12, 0) := hk.out
      go_enter Tryz.func173, Tryz.ntmps173
      go_wp2_with (first | (go_at_call_of 182 (Value.int .i64 19); refine (m19.out _).mono ?_; rintro e w2 ⟨rfl, h2⟩) | (go_at_call_of 182 (Value.int .i64 12); refine (m12.out _).mono ?_; rintro e w3 ⟨rfl, h3⟩))
      refine bodyPost_ret (v := .tuple #[.int .i64 12, .int .i64 0]) (by simp [results, Tryz.results173, go_sem]) rfl ⟨rfl, h2.trans (h3.mono h2.size)⟩
    | false =>
      obtain rfl : K = (0, 50) := hk.out
      go_enter Tryz.func173, Tryz.ntmps173
      go_wp2_with (first | (go_at_call_of 182 (Value.int .i64 19); refine (m19.out _).mono ?_; rintro e w2 ⟨rfl, h2⟩) | (go_at_call_of 182 (Value.int .i64 12); refine (m12.out _).mono ?_; rintro e w3 ⟨rfl, h3⟩))
      refine bodyPost_ret (v := .tuple #[.int .i64 0, .int .i64 50]) (by simp [results, Tryz.results173, go_sem]) rfl ⟨rfl, h2.trans (h3.mono h2.size)⟩

end Go.Proofs.YtklchpdpooikdaaGreatDoor
