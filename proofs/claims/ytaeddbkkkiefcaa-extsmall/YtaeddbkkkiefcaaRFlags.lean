/-
  The reference's Flags, as a plain function of a number; it is the one of num.Flags.
-/
import Derived.Test.YtaeddbkkkiefcaaFlagM
import Derived.Test.YtaeddbkkkiefcaaMore
namespace Go.Proofs.Ytaeddbkkkiefcaa
open Go.RowKit Go.IntWalk

theorem OwnB.shape {w : World} {base : Nat} {v : Value} {xs : List Int} (h : OwnB w base v xs) : ∃ ao c, v = .slice ao xs.length c := by
  rcases h.split with ⟨rfl, rfl⟩ | ⟨g, c, rfl, _⟩
  · exact ⟨none, 0, rfl⟩
  · exact ⟨_, c, rfl⟩

set_option maxRecDepth 100000 in
set_option maxHeartbeats 1000000 in
theorem refFlags_any (S : Nat) (h1 : (S : Int) < 65536) (w : World) :
    Calls Try.prog 41 #[.int .u16 S] w fun e w' => ∃ g c', e = .returned (.slice (some ⟨g, 0, none⟩) (flagsS S).length c') ∧ OwnB w' w.heap.size (.slice (some ⟨g, 0, none⟩) (flagsS S).length c') (flagsS S) ∧ Below w.heap.size w w' := by
  go_enter Try.func41, Try.ntmps41
  go_wp2
  go_loop [3, 4] (fun l i => ∃ k : Nat, k ≤ 16 ∧ l = .int .i64 (lastAt S k) ∧ i = .int .i64 k) (fun _ i => 16 - (intOf i).toNat)
  case atStart => exact ⟨0, Nat.zero_le _, rfl, rfl⟩
  case round =>
    obtain ⟨k, hk, rfl, rfl⟩ := hrel
    rcases (show k = 0 ∨ k = 1 ∨ k = 2 ∨ k = 3 ∨ k = 4 ∨ k = 5 ∨ k = 6 ∨ k = 7 ∨ k = 8 ∨ k = 9 ∨ k = 10 ∨ k = 11 ∨ k = 12 ∨ k = 13 ∨ k = 14 ∨ k = 15 ∨ k = 16 by omega) with rfl | rfl | rfl | rfl | rfl | rfl | rfl | rfl | rfl | rfl | rfl | rfl | rfl | rfl | rfl | rfl | rfl
    · by_cases hb : (S : Int) % 2 = 1
      · have e1 := hide (lastAt_yes S 0 (by omega))
        go_wp2
        go_round
        case rel => exact ⟨0 + 1, by omega, by rw [e1.out], by go_num⟩
        case measure => simp [intOf]
      · have e1 := hide (lastAt_no S 0 (by omega))
        have hb' : ((S : Int) % 2 == 1) = false := by simp [hb]
        go_wp2
        go_round
        case rel => exact ⟨0 + 1, by omega, by rw [e1.out], by go_num⟩
        case measure => simp [intOf]
    · by_cases hb : (S : Int)/ 2 % 2 = 1
      · have e1 := hide (lastAt_yes S 1 (by omega))
        go_wp2
        go_round
        case rel => exact ⟨1 + 1, by omega, by rw [e1.out], by go_num⟩
        case measure => simp [intOf]
      · have e1 := hide (lastAt_no S 1 (by omega))
        have hb' : ((S : Int)/ 2 % 2 == 1) = false := by simp [hb]
        go_wp2
        go_round
        case rel => exact ⟨1 + 1, by omega, by rw [e1.out], by go_num⟩
        case measure => simp [intOf]
    · by_cases hb : (S : Int)/ 4 % 2 = 1
      · have e1 := hide (lastAt_yes S 2 (by omega))
        go_wp2
        go_round
        case rel => exact ⟨2 + 1, by omega, by rw [e1.out], by go_num⟩
        case measure => simp [intOf]
      · have e1 := hide (lastAt_no S 2 (by omega))
        have hb' : ((S : Int)/ 4 % 2 == 1) = false := by simp [hb]
        go_wp2
        go_round
        case rel => exact ⟨2 + 1, by omega, by rw [e1.out], by go_num⟩
        case measure => simp [intOf]
    · by_cases hb : (S : Int)/ 8 % 2 = 1
      · have e1 := hide (lastAt_yes S 3 (by omega))
        go_wp2
        go_round
        case rel => exact ⟨3 + 1, by omega, by rw [e1.out], by go_num⟩
        case measure => simp [intOf]
      · have e1 := hide (lastAt_no S 3 (by omega))
        have hb' : ((S : Int)/ 8 % 2 == 1) = false := by simp [hb]
        go_wp2
        go_round
        case rel => exact ⟨3 + 1, by omega, by rw [e1.out], by go_num⟩
        case measure => simp [intOf]
    · by_cases hb : (S : Int)/ 16 % 2 = 1
      · have e1 := hide (lastAt_yes S 4 (by omega))
        go_wp2
        go_round
        case rel => exact ⟨4 + 1, by omega, by rw [e1.out], by go_num⟩
        case measure => simp [intOf]
      · have e1 := hide (lastAt_no S 4 (by omega))
        have hb' : ((S : Int)/ 16 % 2 == 1) = false := by simp [hb]
        go_wp2
        go_round
        case rel => exact ⟨4 + 1, by omega, by rw [e1.out], by go_num⟩
        case measure => simp [intOf]
    · by_cases hb : (S : Int)/ 32 % 2 = 1
      · have e1 := hide (lastAt_yes S 5 (by omega))
        go_wp2
        go_round
        case rel => exact ⟨5 + 1, by omega, by rw [e1.out], by go_num⟩
        case measure => simp [intOf]
      · have e1 := hide (lastAt_no S 5 (by omega))
        have hb' : ((S : Int)/ 32 % 2 == 1) = false := by simp [hb]
        go_wp2
        go_round
        case rel => exact ⟨5 + 1, by omega, by rw [e1.out], by go_num⟩
        case measure => simp [intOf]
    · by_cases hb : (S : Int)/ 64 % 2 = 1
      · have e1 := hide (lastAt_yes S 6 (by omega))
        go_wp2
        go_round
        case rel => exact ⟨6 + 1, by omega, by rw [e1.out], by go_num⟩
        case measure => simp [intOf]
      · have e1 := hide (lastAt_no S 6 (by omega))
        have hb' : ((S : Int)/ 64 % 2 == 1) = false := by simp [hb]
        go_wp2
        go_round
        case rel => exact ⟨6 + 1, by omega, by rw [e1.out], by go_num⟩
        case measure => simp [intOf]
    · by_cases hb : (S : Int)/ 128 % 2 = 1
      · have e1 := hide (lastAt_yes S 7 (by omega))
        go_wp2
        go_round
        case rel => exact ⟨7 + 1, by omega, by rw [e1.out], by go_num⟩
        case measure => simp [intOf]
      · have e1 := hide (lastAt_no S 7 (by omega))
        have hb' : ((S : Int)/ 128 % 2 == 1) = false := by simp [hb]
        go_wp2
        go_round
        case rel => exact ⟨7 + 1, by omega, by rw [e1.out], by go_num⟩
        case measure => simp [intOf]
    · by_cases hb : (S : Int)/ 256 % 2 = 1
      · have e1 := hide (lastAt_yes S 8 (by omega))
        go_wp2
        go_round
        case rel => exact ⟨8 + 1, by omega, by rw [e1.out], by go_num⟩
        case measure => simp [intOf]
      · have e1 := hide (lastAt_no S 8 (by omega))
        have hb' : ((S : Int)/ 256 % 2 == 1) = false := by simp [hb]
        go_wp2
        go_round
        case rel => exact ⟨8 + 1, by omega, by rw [e1.out], by go_num⟩
        case measure => simp [intOf]
    · by_cases hb : (S : Int)/ 512 % 2 = 1
      · have e1 := hide (lastAt_yes S 9 (by omega))
        go_wp2
        go_round
        case rel => exact ⟨9 + 1, by omega, by rw [e1.out], by go_num⟩
        case measure => simp [intOf]
      · have e1 := hide (lastAt_no S 9 (by omega))
        have hb' : ((S : Int)/ 512 % 2 == 1) = false := by simp [hb]
        go_wp2
        go_round
        case rel => exact ⟨9 + 1, by omega, by rw [e1.out], by go_num⟩
        case measure => simp [intOf]
    · by_cases hb : (S : Int)/ 1024 % 2 = 1
      · have e1 := hide (lastAt_yes S 10 (by omega))
        go_wp2
        go_round
        case rel => exact ⟨10 + 1, by omega, by rw [e1.out], by go_num⟩
        case measure => simp [intOf]
      · have e1 := hide (lastAt_no S 10 (by omega))
        have hb' : ((S : Int)/ 1024 % 2 == 1) = false := by simp [hb]
        go_wp2
        go_round
        case rel => exact ⟨10 + 1, by omega, by rw [e1.out], by go_num⟩
        case measure => simp [intOf]
    · by_cases hb : (S : Int)/ 2048 % 2 = 1
      · have e1 := hide (lastAt_yes S 11 (by omega))
        go_wp2
        go_round
        case rel => exact ⟨11 + 1, by omega, by rw [e1.out], by go_num⟩
        case measure => simp [intOf]
      · have e1 := hide (lastAt_no S 11 (by omega))
        have hb' : ((S : Int)/ 2048 % 2 == 1) = false := by simp [hb]
        go_wp2
        go_round
        case rel => exact ⟨11 + 1, by omega, by rw [e1.out], by go_num⟩
        case measure => simp [intOf]
    · by_cases hb : (S : Int)/ 4096 % 2 = 1
      · have e1 := hide (lastAt_yes S 12 (by omega))
        go_wp2
        go_round
        case rel => exact ⟨12 + 1, by omega, by rw [e1.out], by go_num⟩
        case measure => simp [intOf]
      · have e1 := hide (lastAt_no S 12 (by omega))
        have hb' : ((S : Int)/ 4096 % 2 == 1) = false := by simp [hb]
        go_wp2
        go_round
        case rel => exact ⟨12 + 1, by omega, by rw [e1.out], by go_num⟩
        case measure => simp [intOf]
    · by_cases hb : (S : Int)/ 8192 % 2 = 1
      · have e1 := hide (lastAt_yes S 13 (by omega))
        go_wp2
        go_round
        case rel => exact ⟨13 + 1, by omega, by rw [e1.out], by go_num⟩
        case measure => simp [intOf]
      · have e1 := hide (lastAt_no S 13 (by omega))
        have hb' : ((S : Int)/ 8192 % 2 == 1) = false := by simp [hb]
        go_wp2
        go_round
        case rel => exact ⟨13 + 1, by omega, by rw [e1.out], by go_num⟩
        case measure => simp [intOf]
    · by_cases hb : (S : Int)/ 16384 % 2 = 1
      · have e1 := hide (lastAt_yes S 14 (by omega))
        go_wp2
        go_round
        case rel => exact ⟨14 + 1, by omega, by rw [e1.out], by go_num⟩
        case measure => simp [intOf]
      · have e1 := hide (lastAt_no S 14 (by omega))
        have hb' : ((S : Int)/ 16384 % 2 == 1) = false := by simp [hb]
        go_wp2
        go_round
        case rel => exact ⟨14 + 1, by omega, by rw [e1.out], by go_num⟩
        case measure => simp [intOf]
    · by_cases hb : (S : Int)/ 32768 % 2 = 1
      · have e1 := hide (lastAt_yes S 15 (by omega))
        go_wp2
        go_round
        case rel => exact ⟨15 + 1, by omega, by rw [e1.out], by go_num⟩
        case measure => simp [intOf]
      · have e1 := hide (lastAt_no S 15 (by omega))
        have hb' : ((S : Int)/ 32768 % 2 == 1) = false := by simp [hb]
        go_wp2
        go_round
        case rel => exact ⟨15 + 1, by omega, by rw [e1.out], by go_num⟩
        case measure => simp [intOf]
    · have hM := lastAt_le S 16
      have eM := hide (show lastAt S 16 = lastAt S 16 from rfl)
      generalize hMM : lastAt S 16 = M at hM
      obtain ⟨hM0, hM1'⟩ := hM
      have hM1 : M < 16 := hM1'
      clear hM1' eM
      have HM := hide hMM
      clear hMM
      go_wp2
      go_loopw [5, 6] (fun v i wr => ∃ k : Nat, (k : Int) ≤ M + 1 ∧ i = .int .i64 k ∧ OwnB wr w.heap.size v (rowAt S k) ∧ Below w.heap.size w wr) (fun _ i _ => 17 - (intOf i).toNat)
      case atStart => exact ⟨0, by omega, rfl, OwnB.nil _ _, Below.refl _ _⟩
      case round =>
        obtain ⟨k, hk, rfl, hoy, hB⟩ := hrel
        by_cases hlt : (k : Int) ≤ M
        · rcases (show k = 0 ∨ k = 1 ∨ k = 2 ∨ k = 3 ∨ k = 4 ∨ k = 5 ∨ k = 6 ∨ k = 7 ∨ k = 8 ∨ k = 9 ∨ k = 10 ∨ k = 11 ∨ k = 12 ∨ k = 13 ∨ k = 14 ∨ k = 15 by omega) with rfl | rfl | rfl | rfl | rfl | rfl | rfl | rfl | rfl | rfl | rfl | rfl | rfl | rfl | rfl | rfl
          · have hl := rowAt_len S 0
            have hyes := hide (rowAt_yes8 S 0)
            have hno := hide (rowAt_no8 S 0)
            generalize rowAt S 0 = r at hoy hl hyes hno
            simp only [Nat.reduceAdd, Nat.reduceDiv] at hl
            have HL := hide hl
            clear hl
            have hlt' : (0 : Int) ≤ M := hlt
            have hk' : (0 : Int) ≤ M + 1 := hk
            clear hlt hk
            by_cases hb : (S : Int) % 2 = 1
            · have e1 := hide (hyes.out (by omega) (by decide))
              go_wp2_with (at_builtin; refine wpList_appN _ rfl (.tmp 26) (.tmp 27) rfl w.heap.size _ r rfl (hoy.alloc _) (some ⟨wr.heap.size, 0, none⟩) 1 1 [0] rfl (Src.lit [0] _ 1 rfl rfl (by simp) (by decide)) (0 + 1) (by rw [List.length_append, HL.out]; rfl) (.inr (by simp)) (by decide) (by have := hB.size; simp; omega) ?_; intro g c w2 ho2 hb2 hl2 hc2 hm2 hg2; have hcell := ho2.cell 0 (by rw [List.length_append, HL.out]; decide); have hfr := ho2.frozen 0; have hst := hide (fun u => ho2.stored 0 u); generalize hx : (r ++ [0]).getD 0 0 = x at hcell; have hX := hide hx; clear hx)
              have hB2 : Below w.heap.size w w2 := (hB.alloc hB.size _).grown hg2 (by have := hB.size; simp; omega) (by intro k hk; exact ((hoy.lt k hk).1))
              go_region
              all_goals
                go_wp2
                go_roundw
                case rel => exact ⟨0 + 1, by omega, by go_num, by rw [e1.out, ← hX.out]; exact (hst.out _).1.heap rfl, (hB2.grown (hst.out _).2 hB2.size (by intro k hk; cases hk; exact hb2)).drew⟩
                case measure => simp [intOf]
            · have e1 := hide (hno.out (by omega) (by decide))
              have hb' : ((S : Int) % 2 == 1) = false := by simp [hb]
              go_wp2_with (at_builtin; refine wpList_appN _ rfl (.tmp 26) (.tmp 27) rfl w.heap.size _ r rfl (hoy.alloc _) (some ⟨wr.heap.size, 0, none⟩) 1 1 [0] rfl (Src.lit [0] _ 1 rfl rfl (by simp) (by decide)) (0 + 1) (by rw [List.length_append, HL.out]; rfl) (.inr (by simp)) (by decide) (by have := hB.size; simp; omega) ?_; intro g c w2 ho2 hb2 hl2 hc2 hm2 hg2)
              have hB2 : Below w.heap.size w w2 := (hB.alloc hB.size _).grown hg2 (by have := hB.size; simp; omega) (by intro k hk; exact ((hoy.lt k hk).1))
              go_roundw
              case rel => exact ⟨0 + 1, by omega, by go_num, by rw [e1.out]; exact ho2, hB2⟩
              case measure => simp [intOf]
          · have hl := rowAt_len S 1
            have hyes := hide (rowAt_yes S 1)
            have hno := hide (rowAt_no S 1)
            generalize rowAt S 1 = r at hoy hl hyes hno
            rcases hoy.split with ⟨_, rfl⟩ | ⟨g, c, rfl, hg0, hg1, hg2, hg3⟩
            · simp at hl
            · rw [hl] at hoy
              simp only [Nat.reduceAdd, Nat.reduceDiv] at hoy hl ⊢
              have hcell := hoy.cell 0 (by omega)
              have hfr := hoy.frozen 0
              have hst := hide (fun u => hoy.stored 0 u)
              rw [hl] at hg2 ⊢
              have HL := hide hl
              clear hl
              generalize hx : r.getD 0 0 = x at hcell
              have hX := hide hx
              clear hx
              have hlt' : (1 : Int) ≤ M := hlt
              have hk' : (1 : Int) ≤ M + 1 := hk
              clear hlt hk
              by_cases hb : (S : Int)/ 2 % 2 = 1
              · have e1 := hide (hyes.out (by omega) (by decide))
                go_wp2_with fail
                go_region
                all_goals
                  go_wp2
                  go_roundw
                  case rel => exact ⟨1 + 1, by omega, by go_num, by rw [e1.out, ← hX.out]; exact (hst.out _).1.heap rfl, (hB.grown (hst.out _).2 hB.size (by intro k hk; cases hk; exact hg0)).drew⟩
                  case measure => simp [intOf]
              · have e1 := hide (hno.out (by omega) (by decide))
                have hb' : ((S : Int)/ 2 % 2 == 1) = false := by simp [hb]
                go_wp2
                go_roundw
                case rel => exact ⟨1 + 1, by omega, by go_num, by rw [e1.out]; exact hoy, hB⟩
                case measure => simp [intOf]
          · have hl := rowAt_len S 2
            have hyes := hide (rowAt_yes S 2)
            have hno := hide (rowAt_no S 2)
            generalize rowAt S 2 = r at hoy hl hyes hno
            rcases hoy.split with ⟨_, rfl⟩ | ⟨g, c, rfl, hg0, hg1, hg2, hg3⟩
            · simp at hl
            · rw [hl] at hoy
              simp only [Nat.reduceAdd, Nat.reduceDiv] at hoy hl ⊢
              have hcell := hoy.cell 0 (by omega)
              have hfr := hoy.frozen 0
              have hst := hide (fun u => hoy.stored 0 u)
              rw [hl] at hg2 ⊢
              have HL := hide hl
              clear hl
              generalize hx : r.getD 0 0 = x at hcell
              have hX := hide hx
              clear hx
              have hlt' : (2 : Int) ≤ M := hlt
              have hk' : (2 : Int) ≤ M + 1 := hk
              clear hlt hk
              by_cases hb : (S : Int)/ 4 % 2 = 1
              · have e1 := hide (hyes.out (by omega) (by decide))
                go_wp2_with fail
                go_region
                all_goals
                  go_wp2
                  go_roundw
                  case rel => exact ⟨2 + 1, by omega, by go_num, by rw [e1.out, ← hX.out]; exact (hst.out _).1.heap rfl, (hB.grown (hst.out _).2 hB.size (by intro k hk; cases hk; exact hg0)).drew⟩
                  case measure => simp [intOf]
              · have e1 := hide (hno.out (by omega) (by decide))
                have hb' : ((S : Int)/ 4 % 2 == 1) = false := by simp [hb]
                go_wp2
                go_roundw
                case rel => exact ⟨2 + 1, by omega, by go_num, by rw [e1.out]; exact hoy, hB⟩
                case measure => simp [intOf]
          · have hl := rowAt_len S 3
            have hyes := hide (rowAt_yes S 3)
            have hno := hide (rowAt_no S 3)
            generalize rowAt S 3 = r at hoy hl hyes hno
            rcases hoy.split with ⟨_, rfl⟩ | ⟨g, c, rfl, hg0, hg1, hg2, hg3⟩
            · simp at hl
            · rw [hl] at hoy
              simp only [Nat.reduceAdd, Nat.reduceDiv] at hoy hl ⊢
              have hcell := hoy.cell 0 (by omega)
              have hfr := hoy.frozen 0
              have hst := hide (fun u => hoy.stored 0 u)
              rw [hl] at hg2 ⊢
              have HL := hide hl
              clear hl
              generalize hx : r.getD 0 0 = x at hcell
              have hX := hide hx
              clear hx
              have hlt' : (3 : Int) ≤ M := hlt
              have hk' : (3 : Int) ≤ M + 1 := hk
              clear hlt hk
              by_cases hb : (S : Int)/ 8 % 2 = 1
              · have e1 := hide (hyes.out (by omega) (by decide))
                go_wp2_with fail
                go_region
                all_goals
                  go_wp2
                  go_roundw
                  case rel => exact ⟨3 + 1, by omega, by go_num, by rw [e1.out, ← hX.out]; exact (hst.out _).1.heap rfl, (hB.grown (hst.out _).2 hB.size (by intro k hk; cases hk; exact hg0)).drew⟩
                  case measure => simp [intOf]
              · have e1 := hide (hno.out (by omega) (by decide))
                have hb' : ((S : Int)/ 8 % 2 == 1) = false := by simp [hb]
                go_wp2
                go_roundw
                case rel => exact ⟨3 + 1, by omega, by go_num, by rw [e1.out]; exact hoy, hB⟩
                case measure => simp [intOf]
          · have hl := rowAt_len S 4
            have hyes := hide (rowAt_yes S 4)
            have hno := hide (rowAt_no S 4)
            generalize rowAt S 4 = r at hoy hl hyes hno
            rcases hoy.split with ⟨_, rfl⟩ | ⟨g, c, rfl, hg0, hg1, hg2, hg3⟩
            · simp at hl
            · rw [hl] at hoy
              simp only [Nat.reduceAdd, Nat.reduceDiv] at hoy hl ⊢
              have hcell := hoy.cell 0 (by omega)
              have hfr := hoy.frozen 0
              have hst := hide (fun u => hoy.stored 0 u)
              rw [hl] at hg2 ⊢
              have HL := hide hl
              clear hl
              generalize hx : r.getD 0 0 = x at hcell
              have hX := hide hx
              clear hx
              have hlt' : (4 : Int) ≤ M := hlt
              have hk' : (4 : Int) ≤ M + 1 := hk
              clear hlt hk
              by_cases hb : (S : Int)/ 16 % 2 = 1
              · have e1 := hide (hyes.out (by omega) (by decide))
                go_wp2_with fail
                go_region
                all_goals
                  go_wp2
                  go_roundw
                  case rel => exact ⟨4 + 1, by omega, by go_num, by rw [e1.out, ← hX.out]; exact (hst.out _).1.heap rfl, (hB.grown (hst.out _).2 hB.size (by intro k hk; cases hk; exact hg0)).drew⟩
                  case measure => simp [intOf]
              · have e1 := hide (hno.out (by omega) (by decide))
                have hb' : ((S : Int)/ 16 % 2 == 1) = false := by simp [hb]
                go_wp2
                go_roundw
                case rel => exact ⟨4 + 1, by omega, by go_num, by rw [e1.out]; exact hoy, hB⟩
                case measure => simp [intOf]
          · have hl := rowAt_len S 5
            have hyes := hide (rowAt_yes S 5)
            have hno := hide (rowAt_no S 5)
            generalize rowAt S 5 = r at hoy hl hyes hno
            rcases hoy.split with ⟨_, rfl⟩ | ⟨g, c, rfl, hg0, hg1, hg2, hg3⟩
            · simp at hl
            · rw [hl] at hoy
              simp only [Nat.reduceAdd, Nat.reduceDiv] at hoy hl ⊢
              have hcell := hoy.cell 0 (by omega)
              have hfr := hoy.frozen 0
              have hst := hide (fun u => hoy.stored 0 u)
              rw [hl] at hg2 ⊢
              have HL := hide hl
              clear hl
              generalize hx : r.getD 0 0 = x at hcell
              have hX := hide hx
              clear hx
              have hlt' : (5 : Int) ≤ M := hlt
              have hk' : (5 : Int) ≤ M + 1 := hk
              clear hlt hk
              by_cases hb : (S : Int)/ 32 % 2 = 1
              · have e1 := hide (hyes.out (by omega) (by decide))
                go_wp2_with fail
                go_region
                all_goals
                  go_wp2
                  go_roundw
                  case rel => exact ⟨5 + 1, by omega, by go_num, by rw [e1.out, ← hX.out]; exact (hst.out _).1.heap rfl, (hB.grown (hst.out _).2 hB.size (by intro k hk; cases hk; exact hg0)).drew⟩
                  case measure => simp [intOf]
              · have e1 := hide (hno.out (by omega) (by decide))
                have hb' : ((S : Int)/ 32 % 2 == 1) = false := by simp [hb]
                go_wp2
                go_roundw
                case rel => exact ⟨5 + 1, by omega, by go_num, by rw [e1.out]; exact hoy, hB⟩
                case measure => simp [intOf]
          · have hl := rowAt_len S 6
            have hyes := hide (rowAt_yes S 6)
            have hno := hide (rowAt_no S 6)
            generalize rowAt S 6 = r at hoy hl hyes hno
            rcases hoy.split with ⟨_, rfl⟩ | ⟨g, c, rfl, hg0, hg1, hg2, hg3⟩
            · simp at hl
            · rw [hl] at hoy
              simp only [Nat.reduceAdd, Nat.reduceDiv] at hoy hl ⊢
              have hcell := hoy.cell 0 (by omega)
              have hfr := hoy.frozen 0
              have hst := hide (fun u => hoy.stored 0 u)
              rw [hl] at hg2 ⊢
              have HL := hide hl
              clear hl
              generalize hx : r.getD 0 0 = x at hcell
              have hX := hide hx
              clear hx
              have hlt' : (6 : Int) ≤ M := hlt
              have hk' : (6 : Int) ≤ M + 1 := hk
              clear hlt hk
              by_cases hb : (S : Int)/ 64 % 2 = 1
              · have e1 := hide (hyes.out (by omega) (by decide))
                go_wp2_with fail
                go_region
                all_goals
                  go_wp2
                  go_roundw
                  case rel => exact ⟨6 + 1, by omega, by go_num, by rw [e1.out, ← hX.out]; exact (hst.out _).1.heap rfl, (hB.grown (hst.out _).2 hB.size (by intro k hk; cases hk; exact hg0)).drew⟩
                  case measure => simp [intOf]
              · have e1 := hide (hno.out (by omega) (by decide))
                have hb' : ((S : Int)/ 64 % 2 == 1) = false := by simp [hb]
                go_wp2
                go_roundw
                case rel => exact ⟨6 + 1, by omega, by go_num, by rw [e1.out]; exact hoy, hB⟩
                case measure => simp [intOf]
          · have hl := rowAt_len S 7
            have hyes := hide (rowAt_yes S 7)
            have hno := hide (rowAt_no S 7)
            generalize rowAt S 7 = r at hoy hl hyes hno
            rcases hoy.split with ⟨_, rfl⟩ | ⟨g, c, rfl, hg0, hg1, hg2, hg3⟩
            · simp at hl
            · rw [hl] at hoy
              simp only [Nat.reduceAdd, Nat.reduceDiv] at hoy hl ⊢
              have hcell := hoy.cell 0 (by omega)
              have hfr := hoy.frozen 0
              have hst := hide (fun u => hoy.stored 0 u)
              rw [hl] at hg2 ⊢
              have HL := hide hl
              clear hl
              generalize hx : r.getD 0 0 = x at hcell
              have hX := hide hx
              clear hx
              have hlt' : (7 : Int) ≤ M := hlt
              have hk' : (7 : Int) ≤ M + 1 := hk
              clear hlt hk
              by_cases hb : (S : Int)/ 128 % 2 = 1
              · have e1 := hide (hyes.out (by omega) (by decide))
                go_wp2_with fail
                go_region
                all_goals
                  go_wp2
                  go_roundw
                  case rel => exact ⟨7 + 1, by omega, by go_num, by rw [e1.out, ← hX.out]; exact (hst.out _).1.heap rfl, (hB.grown (hst.out _).2 hB.size (by intro k hk; cases hk; exact hg0)).drew⟩
                  case measure => simp [intOf]
              · have e1 := hide (hno.out (by omega) (by decide))
                have hb' : ((S : Int)/ 128 % 2 == 1) = false := by simp [hb]
                go_wp2
                go_roundw
                case rel => exact ⟨7 + 1, by omega, by go_num, by rw [e1.out]; exact hoy, hB⟩
                case measure => simp [intOf]
          · have hl := rowAt_len S 8
            have hyes := hide (rowAt_yes8 S 8)
            have hno := hide (rowAt_no8 S 8)
            generalize rowAt S 8 = r at hoy hl hyes hno
            simp only [Nat.reduceAdd, Nat.reduceDiv] at hl
            have HL := hide hl
            clear hl
            have hlt' : (8 : Int) ≤ M := hlt
            have hk' : (8 : Int) ≤ M + 1 := hk
            clear hlt hk
            by_cases hb : (S : Int)/ 256 % 2 = 1
            · have e1 := hide (hyes.out (by omega) (by decide))
              go_wp2_with (at_builtin; refine wpList_appN _ rfl (.tmp 26) (.tmp 27) rfl w.heap.size _ r rfl (hoy.alloc _) (some ⟨wr.heap.size, 0, none⟩) 1 1 [0] rfl (Src.lit [0] _ 1 rfl rfl (by simp) (by decide)) (1 + 1) (by rw [List.length_append, HL.out]; rfl) (.inr (by simp)) (by decide) (by have := hB.size; simp; omega) ?_; intro g c w2 ho2 hb2 hl2 hc2 hm2 hg2; have hcell := ho2.cell 1 (by rw [List.length_append, HL.out]; decide); have hfr := ho2.frozen 1; have hst := hide (fun u => ho2.stored 1 u); generalize hx : (r ++ [0]).getD 1 0 = x at hcell; have hX := hide hx; clear hx)
              have hB2 : Below w.heap.size w w2 := (hB.alloc hB.size _).grown hg2 (by have := hB.size; simp; omega) (by intro k hk; exact ((hoy.lt k hk).1))
              go_region
              all_goals
                go_wp2
                go_roundw
                case rel => exact ⟨8 + 1, by omega, by go_num, by rw [e1.out, ← hX.out]; exact (hst.out _).1.heap rfl, (hB2.grown (hst.out _).2 hB2.size (by intro k hk; cases hk; exact hb2)).drew⟩
                case measure => simp [intOf]
            · have e1 := hide (hno.out (by omega) (by decide))
              have hb' : ((S : Int)/ 256 % 2 == 1) = false := by simp [hb]
              go_wp2_with (at_builtin; refine wpList_appN _ rfl (.tmp 26) (.tmp 27) rfl w.heap.size _ r rfl (hoy.alloc _) (some ⟨wr.heap.size, 0, none⟩) 1 1 [0] rfl (Src.lit [0] _ 1 rfl rfl (by simp) (by decide)) (1 + 1) (by rw [List.length_append, HL.out]; rfl) (.inr (by simp)) (by decide) (by have := hB.size; simp; omega) ?_; intro g c w2 ho2 hb2 hl2 hc2 hm2 hg2)
              have hB2 : Below w.heap.size w w2 := (hB.alloc hB.size _).grown hg2 (by have := hB.size; simp; omega) (by intro k hk; exact ((hoy.lt k hk).1))
              go_roundw
              case rel => exact ⟨8 + 1, by omega, by go_num, by rw [e1.out]; exact ho2, hB2⟩
              case measure => simp [intOf]
          · have hl := rowAt_len S 9
            have hyes := hide (rowAt_yes S 9)
            have hno := hide (rowAt_no S 9)
            generalize rowAt S 9 = r at hoy hl hyes hno
            rcases hoy.split with ⟨_, rfl⟩ | ⟨g, c, rfl, hg0, hg1, hg2, hg3⟩
            · simp at hl
            · rw [hl] at hoy
              simp only [Nat.reduceAdd, Nat.reduceDiv] at hoy hl ⊢
              have hcell := hoy.cell 1 (by omega)
              have hfr := hoy.frozen 1
              have hst := hide (fun u => hoy.stored 1 u)
              rw [hl] at hg2 ⊢
              have HL := hide hl
              clear hl
              generalize hx : r.getD 1 0 = x at hcell
              have hX := hide hx
              clear hx
              have hlt' : (9 : Int) ≤ M := hlt
              have hk' : (9 : Int) ≤ M + 1 := hk
              clear hlt hk
              by_cases hb : (S : Int)/ 512 % 2 = 1
              · have e1 := hide (hyes.out (by omega) (by decide))
                go_wp2_with fail
                go_region
                all_goals
                  go_wp2
                  go_roundw
                  case rel => exact ⟨9 + 1, by omega, by go_num, by rw [e1.out, ← hX.out]; exact (hst.out _).1.heap rfl, (hB.grown (hst.out _).2 hB.size (by intro k hk; cases hk; exact hg0)).drew⟩
                  case measure => simp [intOf]
              · have e1 := hide (hno.out (by omega) (by decide))
                have hb' : ((S : Int)/ 512 % 2 == 1) = false := by simp [hb]
                go_wp2
                go_roundw
                case rel => exact ⟨9 + 1, by omega, by go_num, by rw [e1.out]; exact hoy, hB⟩
                case measure => simp [intOf]
          · have hl := rowAt_len S 10
            have hyes := hide (rowAt_yes S 10)
            have hno := hide (rowAt_no S 10)
            generalize rowAt S 10 = r at hoy hl hyes hno
            rcases hoy.split with ⟨_, rfl⟩ | ⟨g, c, rfl, hg0, hg1, hg2, hg3⟩
            · simp at hl
            · rw [hl] at hoy
              simp only [Nat.reduceAdd, Nat.reduceDiv] at hoy hl ⊢
              have hcell := hoy.cell 1 (by omega)
              have hfr := hoy.frozen 1
              have hst := hide (fun u => hoy.stored 1 u)
              rw [hl] at hg2 ⊢
              have HL := hide hl
              clear hl
              generalize hx : r.getD 1 0 = x at hcell
              have hX := hide hx
              clear hx
              have hlt' : (10 : Int) ≤ M := hlt
              have hk' : (10 : Int) ≤ M + 1 := hk
              clear hlt hk
              by_cases hb : (S : Int)/ 1024 % 2 = 1
              · have e1 := hide (hyes.out (by omega) (by decide))
                go_wp2_with fail
                go_region
                all_goals
                  go_wp2
                  go_roundw
                  case rel => exact ⟨10 + 1, by omega, by go_num, by rw [e1.out, ← hX.out]; exact (hst.out _).1.heap rfl, (hB.grown (hst.out _).2 hB.size (by intro k hk; cases hk; exact hg0)).drew⟩
                  case measure => simp [intOf]
              · have e1 := hide (hno.out (by omega) (by decide))
                have hb' : ((S : Int)/ 1024 % 2 == 1) = false := by simp [hb]
                go_wp2
                go_roundw
                case rel => exact ⟨10 + 1, by omega, by go_num, by rw [e1.out]; exact hoy, hB⟩
                case measure => simp [intOf]
          · have hl := rowAt_len S 11
            have hyes := hide (rowAt_yes S 11)
            have hno := hide (rowAt_no S 11)
            generalize rowAt S 11 = r at hoy hl hyes hno
            rcases hoy.split with ⟨_, rfl⟩ | ⟨g, c, rfl, hg0, hg1, hg2, hg3⟩
            · simp at hl
            · rw [hl] at hoy
              simp only [Nat.reduceAdd, Nat.reduceDiv] at hoy hl ⊢
              have hcell := hoy.cell 1 (by omega)
              have hfr := hoy.frozen 1
              have hst := hide (fun u => hoy.stored 1 u)
              rw [hl] at hg2 ⊢
              have HL := hide hl
              clear hl
              generalize hx : r.getD 1 0 = x at hcell
              have hX := hide hx
              clear hx
              have hlt' : (11 : Int) ≤ M := hlt
              have hk' : (11 : Int) ≤ M + 1 := hk
              clear hlt hk
              by_cases hb : (S : Int)/ 2048 % 2 = 1
              · have e1 := hide (hyes.out (by omega) (by decide))
                go_wp2_with fail
                go_region
                all_goals
                  go_wp2
                  go_roundw
                  case rel => exact ⟨11 + 1, by omega, by go_num, by rw [e1.out, ← hX.out]; exact (hst.out _).1.heap rfl, (hB.grown (hst.out _).2 hB.size (by intro k hk; cases hk; exact hg0)).drew⟩
                  case measure => simp [intOf]
              · have e1 := hide (hno.out (by omega) (by decide))
                have hb' : ((S : Int)/ 2048 % 2 == 1) = false := by simp [hb]
                go_wp2
                go_roundw
                case rel => exact ⟨11 + 1, by omega, by go_num, by rw [e1.out]; exact hoy, hB⟩
                case measure => simp [intOf]
          · have hl := rowAt_len S 12
            have hyes := hide (rowAt_yes S 12)
            have hno := hide (rowAt_no S 12)
            generalize rowAt S 12 = r at hoy hl hyes hno
            rcases hoy.split with ⟨_, rfl⟩ | ⟨g, c, rfl, hg0, hg1, hg2, hg3⟩
            · simp at hl
            · rw [hl] at hoy
              simp only [Nat.reduceAdd, Nat.reduceDiv] at hoy hl ⊢
              have hcell := hoy.cell 1 (by omega)
              have hfr := hoy.frozen 1
              have hst := hide (fun u => hoy.stored 1 u)
              rw [hl] at hg2 ⊢
              have HL := hide hl
              clear hl
              generalize hx : r.getD 1 0 = x at hcell
              have hX := hide hx
              clear hx
              have hlt' : (12 : Int) ≤ M := hlt
              have hk' : (12 : Int) ≤ M + 1 := hk
              clear hlt hk
              by_cases hb : (S : Int)/ 4096 % 2 = 1
              · have e1 := hide (hyes.out (by omega) (by decide))
                go_wp2_with fail
                go_region
                all_goals
                  go_wp2
                  go_roundw
                  case rel => exact ⟨12 + 1, by omega, by go_num, by rw [e1.out, ← hX.out]; exact (hst.out _).1.heap rfl, (hB.grown (hst.out _).2 hB.size (by intro k hk; cases hk; exact hg0)).drew⟩
                  case measure => simp [intOf]
              · have e1 := hide (hno.out (by omega) (by decide))
                have hb' : ((S : Int)/ 4096 % 2 == 1) = false := by simp [hb]
                go_wp2
                go_roundw
                case rel => exact ⟨12 + 1, by omega, by go_num, by rw [e1.out]; exact hoy, hB⟩
                case measure => simp [intOf]
          · have hl := rowAt_len S 13
            have hyes := hide (rowAt_yes S 13)
            have hno := hide (rowAt_no S 13)
            generalize rowAt S 13 = r at hoy hl hyes hno
            rcases hoy.split with ⟨_, rfl⟩ | ⟨g, c, rfl, hg0, hg1, hg2, hg3⟩
            · simp at hl
            · rw [hl] at hoy
              simp only [Nat.reduceAdd, Nat.reduceDiv] at hoy hl ⊢
              have hcell := hoy.cell 1 (by omega)
              have hfr := hoy.frozen 1
              have hst := hide (fun u => hoy.stored 1 u)
              rw [hl] at hg2 ⊢
              have HL := hide hl
              clear hl
              generalize hx : r.getD 1 0 = x at hcell
              have hX := hide hx
              clear hx
              have hlt' : (13 : Int) ≤ M := hlt
              have hk' : (13 : Int) ≤ M + 1 := hk
              clear hlt hk
              by_cases hb : (S : Int)/ 8192 % 2 = 1
              · have e1 := hide (hyes.out (by omega) (by decide))
                go_wp2_with fail
                go_region
                all_goals
                  go_wp2
                  go_roundw
                  case rel => exact ⟨13 + 1, by omega, by go_num, by rw [e1.out, ← hX.out]; exact (hst.out _).1.heap rfl, (hB.grown (hst.out _).2 hB.size (by intro k hk; cases hk; exact hg0)).drew⟩
                  case measure => simp [intOf]
              · have e1 := hide (hno.out (by omega) (by decide))
                have hb' : ((S : Int)/ 8192 % 2 == 1) = false := by simp [hb]
                go_wp2
                go_roundw
                case rel => exact ⟨13 + 1, by omega, by go_num, by rw [e1.out]; exact hoy, hB⟩
                case measure => simp [intOf]
          · have hl := rowAt_len S 14
            have hyes := hide (rowAt_yes S 14)
            have hno := hide (rowAt_no S 14)
            generalize rowAt S 14 = r at hoy hl hyes hno
            rcases hoy.split with ⟨_, rfl⟩ | ⟨g, c, rfl, hg0, hg1, hg2, hg3⟩
            · simp at hl
            · rw [hl] at hoy
              simp only [Nat.reduceAdd, Nat.reduceDiv] at hoy hl ⊢
              have hcell := hoy.cell 1 (by omega)
              have hfr := hoy.frozen 1
              have hst := hide (fun u => hoy.stored 1 u)
              rw [hl] at hg2 ⊢
              have HL := hide hl
              clear hl
              generalize hx : r.getD 1 0 = x at hcell
              have hX := hide hx
              clear hx
              have hlt' : (14 : Int) ≤ M := hlt
              have hk' : (14 : Int) ≤ M + 1 := hk
              clear hlt hk
              by_cases hb : (S : Int)/ 16384 % 2 = 1
              · have e1 := hide (hyes.out (by omega) (by decide))
                go_wp2_with fail
                go_region
                all_goals
                  go_wp2
                  go_roundw
                  case rel => exact ⟨14 + 1, by omega, by go_num, by rw [e1.out, ← hX.out]; exact (hst.out _).1.heap rfl, (hB.grown (hst.out _).2 hB.size (by intro k hk; cases hk; exact hg0)).drew⟩
                  case measure => simp [intOf]
              · have e1 := hide (hno.out (by omega) (by decide))
                have hb' : ((S : Int)/ 16384 % 2 == 1) = false := by simp [hb]
                go_wp2
                go_roundw
                case rel => exact ⟨14 + 1, by omega, by go_num, by rw [e1.out]; exact hoy, hB⟩
                case measure => simp [intOf]
          · have hl := rowAt_len S 15
            have hyes := hide (rowAt_yes S 15)
            have hno := hide (rowAt_no S 15)
            generalize rowAt S 15 = r at hoy hl hyes hno
            rcases hoy.split with ⟨_, rfl⟩ | ⟨g, c, rfl, hg0, hg1, hg2, hg3⟩
            · simp at hl
            · rw [hl] at hoy
              simp only [Nat.reduceAdd, Nat.reduceDiv] at hoy hl ⊢
              have hcell := hoy.cell 1 (by omega)
              have hfr := hoy.frozen 1
              have hst := hide (fun u => hoy.stored 1 u)
              rw [hl] at hg2 ⊢
              have HL := hide hl
              clear hl
              generalize hx : r.getD 1 0 = x at hcell
              have hX := hide hx
              clear hx
              have hlt' : (15 : Int) ≤ M := hlt
              have hk' : (15 : Int) ≤ M + 1 := hk
              clear hlt hk
              by_cases hb : (S : Int)/ 32768 % 2 = 1
              · have e1 := hide (hyes.out (by omega) (by decide))
                go_wp2_with fail
                go_region
                all_goals
                  go_wp2
                  go_roundw
                  case rel => exact ⟨15 + 1, by omega, by go_num, by rw [e1.out, ← hX.out]; exact (hst.out _).1.heap rfl, (hB.grown (hst.out _).2 hB.size (by intro k hk; cases hk; exact hg0)).drew⟩
                  case measure => simp [intOf]
              · have e1 := hide (hno.out (by omega) (by decide))
                have hb' : ((S : Int)/ 32768 % 2 == 1) = false := by simp [hb]
                go_wp2
                go_roundw
                case rel => exact ⟨15 + 1, by omega, by go_num, by rw [e1.out]; exact hoy, hB⟩
                case measure => simp [intOf]
        · have hkM : (k : Int) = M + 1 := by omega
          have hF := hide (flags_eq S k (by omega) (by rw [HM.out]; exact hkM))
          have hby := hide (flagsS_byte S (by omega) h1)
          have hrb := hide (fun x hx => hby.out x (by rw [hF.out]; exact List.mem_cons_of_mem _ hx))
          obtain ⟨ao, c, rfl⟩ := hoy.shape
          have hl := rowAt_len S k
          have hsr := hide (hoy.toSrc hrb.out)
          generalize rowAt S k = r at hoy hF hl hsr
          rw [hl] at hsr hoy ⊢
          have HL := hide hl
          clear hl
          have hm2 : (k + 7) / 8 ≤ 2 := by omega
          generalize (k + 7) / 8 = m at hsr hoy HL hm2 ⊢
          have hbw := hB.size
          by_cases hM2 : 0 ≤ M
          · have hu : 0 ≤ 7 - M % 8 ∧ 7 - M % 8 ≤ 7 := by omega
            obtain ⟨hu0, hu7⟩ := hu
            have eF := hide (show flagsS S = (7 - M % 8) :: r by rw [hF.out, if_neg (by omega), hkM]; congr 1; omega)
            have eL := hide (show (flagsS S).length = m + 1 by rw [eF.out, List.length_cons, HL.out])
            have hn : ¬ (k : Int) ≤ M := hlt
            clear hkM hlt hk
            go_wp2_with (at_builtin; refine wpList_appN _ rfl (.tmp 54) (.tmp 55) rfl w.heap.size (.slice (some ⟨wr.heap.size, 0, none⟩) 1 1) [7 - M % 8] rfl (OwnB.lit _ [7 - M % 8] _ 1 rfl rfl hbw (by decide)) ao m c r rfl (hsr.out.alloc _) (m + 1) (by rw [List.length_append, HL.out]; simp; omega) (.inl (by simp)) (by omega) (by simp; omega) ?_; intro g1 c1 w3 ho1 hb1 hl1 hc1 hm1 hg1)
            go_ret
            rw [eL.out, eF.out]
            exact ⟨g1, c1, rfl, ho1, (hB.alloc hbw _).grown hg1 (by simp; omega) (by intro k hk; cases hk; exact hbw)⟩
          · have eF := hide (show flagsS S = 0 :: r by rw [hF.out, if_pos (by omega)])
            have eL := hide (show (flagsS S).length = m + 1 by rw [eF.out, List.length_cons, HL.out])
            have hn : ¬ (k : Int) ≤ M := hlt
            clear hkM hlt hk
            go_wp2_with (at_builtin; refine wpList_appN _ rfl (.tmp 54) (.tmp 55) rfl w.heap.size (.slice (some ⟨wr.heap.size, 0, none⟩) 1 1) [0] rfl (OwnB.lit _ [0] _ 1 rfl rfl hbw (by decide)) ao m c r rfl (hsr.out.alloc _) (m + 1) (by rw [List.length_append, HL.out]; simp; omega) (.inl (by simp)) (by omega) (by simp; omega) ?_; intro g1 c1 w3 ho1 hb1 hl1 hc1 hm1 hg1)
            go_ret
            rw [eL.out, eF.out]
            exact ⟨g1, c1, rfl, ho1, (hB.alloc hbw _).grown hg1 (by simp; omega) (by intro k hk; cases hk; exact hbw)⟩

end Go.Proofs.Ytaeddbkkkiefcaa
