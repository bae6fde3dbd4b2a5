/-
  ClockCivils answers true at any number.
-/
import Derived.Test.YtnpimjfdidbdfaaDoorCivN
import Derived.Test.YtnpimjfdidbdfaaDoorRText
namespace Go.Proofs.YtnpimjfdidbdfaaDoor
open Go.RowKit

set_option maxRecDepth 100000 in
set_option maxHeartbeats 1000000 in
theorem same_any (a b c d e f : Int) (w : World) :
    Calls Tryd.prog 15 #[agg6 a b c d e f, agg6 a b c d e f] w fun x w' => x = .returned (.bool true) ∧ Below w.heap.size w w' := by
  have h1 : (a == a) = true := by simp
  have h2 : (b == b) = true := by simp
  have h3 : (c == c) = true := by simp
  have h4 : (d == d) = true := by simp
  have h5 : (e == e) = true := by simp
  have h6 : (f == f) = true := by simp
  unfold agg6
  go_enter Tryd.func15, Tryd.ntmps15
  go_wp2
  go_ret
  exact ⟨rfl, ((Below.refl _ _).alloc (Nat.le_refl _) _).alloc (by simp) _⟩

set_option maxRecDepth 100000 in
set_option maxHeartbeats 4000000 in
theorem civils_gen (t a b c d e f er k : Int) (T : ByteArray) (w : World) (ht : Tab w)
    (C1 : ∀ W, Tab W → Calls Tryd.prog 9 #[.int .i64 t] W fun x w' => x = .returned (.tuple #[agg6 a b c d e f, .int .i64 er]) ∧ Below W.heap.size W w')
    (C2 : ∀ W, Calls Tryd.prog 10 #[.int .i64 t] W fun x w' => x = .returned (.tuple #[agg6 a b c d e f, .int .i64 er]) ∧ Below W.heap.size W w')
    (X1 : ∀ W, Tab W → Calls Tryd.prog 11 #[.int .i64 t] W fun x w' => x = .returned (.tuple #[.string T, .int .i64 er]) ∧ Below W.heap.size W w')
    (X2 : ∀ W, Calls Tryd.prog 12 #[.int .i64 t] W fun x w' => x = .returned (.tuple #[.string T, .int .i64 er]) ∧ Below W.heap.size W w')
    (D1 : ∀ W, Calls Tryd.prog 13 #[.int .i64 t] W fun x w' => x = .returned (.tuple #[.int .i64 k, .int .i64 er]) ∧ w' = W)
    (D2 : ∀ W, Calls Tryd.prog 14 #[.int .i64 t] W fun x w' => x = .returned (.tuple #[.int .i64 k, .int .i64 er]) ∧ w' = W) :
    Calls Tryd.prog 3 #[.int .i64 t] w fun x w' => x = .returned (.bool true) ∧ Below w.heap.size w w' := by
  have C1 := hide C1
  have C2 := hide C2
  have X1 := hide X1
  have X2 := hide X2
  have D1 := hide D1
  have D2 := hide D2
  have SM := hide (fun W => same_any a b c d e f W)
  have HT := hide ht
  clear ht
  unfold agg6 at C1 C2 SM
  have q1 : (er == er) = true := by simp
  have q2 : (k == k) = true := by simp
  have q3 : (T.toList == T.toList) = true := by simp
  have hl : leapB 2000 = true := by decide
  go_enter Tryd.func3, Tryd.ntmps3
  go_wp2_with fail
  refine (C1.out _ HT.out).mono ?_
  rintro x w1 ⟨rfl, B1⟩
  go_wp2_with fail
  refine (C2.out _).mono ?_
  rintro x w2 ⟨rfl, B2⟩
  have k1 : Six (w2.alloc (.cells #[.int .i64 a, .int .i64 b, .int .i64 c, .int .i64 d, .int .i64 e, .int .i64 f] 27)) w1.heap.size a b c d e f :=
    ((Six.new w1 23 a b c d e f rfl).below B2 (by simp)).below ((Below.refl _ _).alloc (Nat.le_refl _) _) (by have := B2.size; simp at this; omega)
  have k2 : Six (w2.alloc (.cells #[.int .i64 a, .int .i64 b, .int .i64 c, .int .i64 d, .int .i64 e, .int .i64 f] 27)) w2.heap.size a b c d e f := Six.new w2 _ a b c d e f rfl
  have hB : Below w.heap.size w (w2.alloc (.cells #[.int .i64 a, .int .i64 b, .int .i64 c, .int .i64 d, .int .i64 e, .int .i64 f] 27)) :=
    ((B1.alloc B1.size _).trans (B2.mono (by have := B1.size; simp; omega))).alloc (by have := B1.size; have := B2.size; simp at this; omega) _
  have hl2 : w2.heap.size < (w2.alloc (.cells #[.int .i64 a, .int .i64 b, .int .i64 c, .int .i64 d, .int .i64 e, .int .i64 f] 27)).heap.size := by simp
  have hl1 : w1.heap.size < w2.heap.size := by have := B2.size; simp at this; omega
  go_wp2_with fail
  generalize w2.alloc (.cells #[.int .i64 a, .int .i64 b, .int .i64 c, .int .i64 d, .int .i64 e, .int .i64 f] 27) = W0 at *
  clear B1 B2
  generalize w1.heap.size = g1 at *
  generalize w2.heap.size = g2 at *
  refine (X1.out _ (HT.out.below hB)).mono ?_
  rintro x w3 ⟨rfl, B3⟩
  have k1 := k1.below B3 (by omega)
  have k2 := k2.below B3 hl2
  have hB := hB.trans (B3.mono hB.size)
  have hl3 : g2 < w3.heap.size := Nat.lt_of_lt_of_le hl2 B3.size
  go_wp2_with fail
  refine (X2.out _).mono ?_
  rintro x w4 ⟨rfl, B4⟩
  have k1 := k1.below B4 (by omega)
  have k2 := k2.below B4 hl3
  have hB := hide (hB.trans (B4.mono hB.size))
  clear B3 B4
  go_wp2_with fail
  refine (D1.out _).mono ?_
  rintro x w5 ⟨rfl, rfl⟩
  go_wp2_with fail
  refine (D2.out _).mono ?_
  rintro x w6 ⟨rfl, rfl⟩
  obtain ⟨u0, u1, u2, u3, u4, u5⟩ := k1
  obtain ⟨v0, v1, v2, v3, v4, v5⟩ := k2
  go_wp2_with (first | (go_at_call 15; refine (SM.out _).mono ?_; rintro x w7 ⟨rfl, B7⟩) | (go_at_call 16; refine (leap_any _ _).mono ?_; rintro x w8 ⟨rfl, rfl⟩) | (go_at_call 17; refine (namesC_any _).mono ?_; rintro x w9 ⟨rfl, rfl⟩))
  go_ret
  exact ⟨rfl, hB.out.trans (B7.mono hB.out.size)⟩

theorem civils_walk (t : Int) (w : World) (ht : Tab w) :
    Calls Tryd.prog 3 #[.int .i64 t] w fun x w' => x = .returned (.bool true) ∧ Below w.heap.size w w' := by
  by_cases h : isT t
  · obtain ⟨y, m, q, H, i, s, c⟩ := civN_ex h
    refine civils_gen t y m q H i s 0 (dayOf t % 7) (strOfNums (txtV y m q H i s)) w ht (fun W hW => civil_N h c W hW) (fun W => ?_) (fun W hW => text_N h c W hW) (fun W => refText_gen t y m q H i s c.big W ?_) (fun W => weekday_at t h W) (fun W => refWeekday_at t h W)
    · rw [← c.agg]; exact toCivil_at t h y m q c.at_ W
    · rw [← c.agg]; exact toCivil_at t h y m q c.at_ W
  · exact civils_gen t 0 0 0 0 0 0 40 0 ⟨#[]⟩ w ht (fun W _ => civil_no t h W) (fun W => toCivil_no t h W) (fun W _ => text_no t h W) (fun W => refText_no t h W) (fun W => weekday_no t h W) (fun W => refWeekday_no t h W)

end Go.Proofs.YtnpimjfdidbdfaaDoor
