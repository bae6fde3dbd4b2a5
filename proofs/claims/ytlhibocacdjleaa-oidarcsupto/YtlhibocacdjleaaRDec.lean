/-
  The document's Decode reads a content as decS says.
-/
import Derived.Test.YtlhibocacdjleaaDecS
import Derived.Test.YtlhibocacdjleaaRNext
namespace Go.Proofs.Ytlhibocacdjleaa
open Go.RowKit Go.IntWalk

theorem nextV_ok {p k : Nat} {N : Int} {r : Int × Nat × Int} (h : r = (N, k, 0)) : nextV p r = .tuple #[.int .i64 N, .int .i64 ((p : Int) + (k : Int)), .int .i64 0] := by
  rw [h]; simp [nextV]
theorem nextV_bad {p : Nat} {r : Int × Nat × Int} (h : r.2.2 ≠ 0) : nextV p r = .tuple #[.int .i64 r.1, .int .i64 0, .int .i64 r.2.2] := by
  simp [nextV, h]


set_option maxRecDepth 100000 in
set_option maxHeartbeats 1000000 in
theorem refDecode_any (ao : Option Addr) (n cap : Nat) (xs : List Int) (w : World) (hs : Src w ao n cap xs) (hN : n ≤ 140737488355328) :
    Calls Try.prog 19 #[.slice ao n cap] w fun e w' => ∃ ao' L c', e = .returned (.tuple #[.slice ao' L c', .int .i64 (decS xs).2]) ∧ OwnI w' w.heap.size (.slice ao' L c') (decS xs).1 ∧ Below w.heap.size w w' := by
  have HL := hide hs.hlen
  have hc0 := refNext_any ao n cap xs 0 w hs hN (Nat.zero_le _)
  rw [List.drop_zero] at hc0
  have HC := hide hc0
  clear hc0
  by_cases he : (nextS xs).2.2 = 0
  · have hin := nextS_in xs he
    have hd := hide (show decS xs = decG xs (firstS (nextS xs).1) (nextS xs).2.1 by unfold decS; rw [if_pos he])
    obtain ⟨N, k, hnk⟩ : ∃ N k, nextS xs = (N, k, 0) := ⟨(nextS xs).1, (nextS xs).2.1, by rw [← he]⟩
    rw [hnk] at hd HC hin
    have HC : Hid (Calls Try.prog 39 #[.slice ao n cap, .int .i64 0] w fun e w' => e = .returned (.tuple #[.int .i64 N, .int .i64 k, .int .i64 0]) ∧ Drawn w w') := by
      refine HC.out.mono ?_
      rintro e w1 ⟨rfl, hD⟩
      exact ⟨by simp [nextV], hD⟩
    have hd : Hid (decS xs = decG xs (firstS N) k) := hd
    have hN0 : 0 ≤ N := hin.1
    have hN1 : N ≤ 2147483647 := hin.2.1
    have hk : k ≤ n := by have := hin.2.2.2; rw [HL.out] at this; exact this
    clear hnk he hin
    go_enter Try.func19, Try.ntmps19
    go_wp2_with fail
    refine HC.out.mono ?_
    rintro e w1 ⟨rfl, hD⟩
    by_cases h40 : N < 40
    · have hb40 : decide (N < 40) = true := decide_eq_true h40
      go_wp2
      have hF := hide (show firstS N = [0, N] by unfold firstS; rw [if_pos (by omega)])
      have oF : OwnI ((w1.alloc (Obj.cells #[Value.int IntKind.i64 2, Value.int IntKind.i64 (N - 80)] 3)).alloc (Obj.cells #[Value.int IntKind.i64 0, Value.int IntKind.i64 N] 3)) w1.heap.size (.slice (some ⟨(w1.heap.size + 1), 0, none⟩) 2 2) (firstS N) := by rw [hF.out]; exact (OwnI.litAt _ _ [0, N] _ 2 rfl rfl (by simp) (by simp) (by decide))
      have hBF : Below w1.heap.size w1 ((w1.alloc (Obj.cells #[Value.int IntKind.i64 2, Value.int IntKind.i64 (N - 80)] 3)).alloc (Obj.cells #[Value.int IntKind.i64 0, Value.int IntKind.i64 N] 3)) := (((Below.refl _ _).alloc (Nat.le_refl _) _).alloc (by simp) _)
      go_loopw [4, 5, 6, 7] (fun _ a e v wr => ∃ (p L g c : Nat) (acc : List Int), a = .int .i64 p ∧ e = .int .i64 0 ∧ v = .slice (some ⟨g, 0, none⟩) L c ∧ p ≤ n ∧ Hid (L = acc.length) ∧ L ≤ 20 ∧ Hid (decS xs = decG xs acc p) ∧ OwnI wr w1.heap.size (.slice (some ⟨g, 0, none⟩) L c) acc ∧ Below w1.heap.size w1 wr) (fun _ a _ _ _ => n - (intOf a).toNat)
      case atStart => exact ⟨k, 2, _, 2, firstS N, rfl, rfl, rfl, hk, (firstS_len N).symm, by decide, hd, oF, hBF⟩
      case round =>
        obtain ⟨p, L, g, c, acc, rfl, rfl, rfl, hp, hL, hL20, hE, hO, hB⟩ := hrel
        have hBs := hB.size
        by_cases hlt : p < n
        · have hli : Hid (p < xs.length) := by unfold Hid; rw [HL.out]; exact hlt
          have pI : (p : Int) < (n : Int) := by omega
          by_cases h20 : L = 20
          · have hfin : Hid (decS xs = ([], 32)) := hE.out.trans (decG_many xs acc p hli.out (by rw [← hL.out]; exact h20))
            subst h20
            go_wp2
            refine bodyPost_ret (v := .tuple #[.slice none 0 0, .int .i64 32]) (by simp [results, Try.results19, go_sem]) rfl ⟨none, 0, 0, by rw [hfin.out], by rw [hfin.out]; exact OwnI.nil _ _, (hD.toBelow _).trans (hB.mono (by rw [hD.heap]; exact Nat.le_refl _))⟩
          · have hLb : ((L : Int) == 20) = false := by simp; omega
            have hb32 : Hid (acc.length ≠ 20) := by unfold Hid; rw [← hL.out]; exact h20
            have hcall := hide (refNext_any ao n cap xs p wr ((hs.heap hD.heap).below hB) hN hp)
            by_cases hz : (nextS (xs.drop p)).2.2 = 0
            · have hin := nextS_in (xs.drop p) hz
              have hst := hide (hE.out.trans (decG_next xs acc p hli.out hb32.out hz))
              obtain ⟨N2, k2, hnk⟩ : ∃ N2 k2, nextS (xs.drop p) = (N2, k2, 0) := ⟨(nextS (xs.drop p)).1, (nextS (xs.drop p)).2.1, by rw [← hz]⟩
              rw [nextV_ok hnk] at hcall
              rw [hnk] at hst hin
              have hst : Hid (decS xs = decG xs (acc ++ [N2]) (p + k2)) := hst
              have q0 : 0 ≤ N2 := hin.1
              have q1 : N2 ≤ 2147483647 := hin.2.1
              have q2 : 0 < k2 := hin.2.2.1
              have q3 : p + k2 ≤ n := by have h1 := hin.2.2.2; have h2 := HL.out; rw [List.length_drop] at h1; have h3 : k2 ≤ xs.length - p := h1; omega
              have hln : Hid ((acc ++ [N2]).length = L + 1) := by unfold Hid; rw [List.length_append, hL.out]; rfl
              clear hnk hin hz
              go_wp2_with (first | (go_at_call 39; refine hcall.out.mono ?_; rintro e w3 ⟨rfl, D3⟩; have z3 : Hid (w3.heap.size = wr.heap.size) := by (unfold Hid; rw [D3.heap])) | (at_builtin; refine wpList_appIN _ rfl (.tmp 46) (.tmp 48) rfl w1.heap.size (.slice (some ⟨g, 0, none⟩) L c) acc rfl ((hO.heap D3.heap).alloc _) (some ⟨w3.heap.size, 0, none⟩) 1 1 [N2] rfl (SrcI.lit [N2] _ 1 rfl rfl (by simp; omega) (by decide)) (L + 1) hln.out (.inl (by simp)) (by omega) (by have := z3.out; simp; omega) ?_; intro g4 c4 w4 ho4 hb4 hl4 hc4 hm4 hg4))
              have hB4 : Below w1.heap.size w1 w4 := ((D3.below hB).alloc (by have := z3.out; omega) _).grown hg4 (by have := z3.out; simp; omega) (by intro q hq; cases hq; exact (hO.lt g rfl).1)
              go_roundw
              case rel => exact ⟨p + k2, L + 1, g4, c4, acc ++ [N2], by simp, rfl, rfl, q3, hln.out.symm, by omega, hst, ho4, hB4⟩
              case measure => simp [intOf]; omega
            · have hst := hide (hE.out.trans (decG_bad xs acc p hli.out hb32.out hz))
              rw [nextV_bad hz] at hcall
              have hzb : ((nextS (xs.drop p)).2.2 != 0) = true := by simpa using hz
              generalize (nextS (xs.drop p)).2.2 = E at hcall hst hzb
              generalize (nextS (xs.drop p)).1 = N2 at hcall
              clear hz
              go_wp2_with (go_at_call 39; refine hcall.out.mono ?_; rintro e w3 ⟨rfl, D3⟩)
              refine bodyPost_ret (v := .tuple #[.slice none 0 0, .int .i64 E]) (by simp [results, Try.results19, go_sem]) rfl ⟨none, 0, 0, by rw [hst.out], by rw [hst.out]; exact OwnI.nil _ _, (hD.toBelow _).trans ((D3.below hB).mono (by rw [hD.heap]; exact Nat.le_refl _))⟩
        · have hfin : Hid (decS xs = (acc, 0)) := hE.out.trans (decG_end xs acc p (by rw [HL.out]; exact hlt))
          have pI : ¬ (p : Int) < (n : Int) := by omega
          go_wp2
          refine bodyPost_ret (v := .tuple #[.slice (some ⟨g, 0, none⟩) L c, .int .i64 0]) (by simp [results, Try.results19, go_sem]) rfl ⟨_, L, c, by rw [hfin.out], by rw [hfin.out]; exact hO.rebase (by rw [hD.heap]; exact Nat.le_refl _), (hD.toBelow _).trans (hB.mono (by rw [hD.heap]; exact Nat.le_refl _))⟩
    · by_cases h80 : N < 80
      · have hb40 : decide (N < 40) = false := decide_eq_false h40
        have hb80 : decide (N < 80) = true := decide_eq_true h80
        go_wp2
        have hF := hide (show firstS N = [1, N - 40] by unfold firstS; rw [if_neg (by omega), if_pos (by omega)])
        have oF : OwnI ((w1.alloc (Obj.cells #[Value.int IntKind.i64 2, Value.int IntKind.i64 (N - 80)] 3)).alloc (Obj.cells #[Value.int IntKind.i64 1, Value.int IntKind.i64 (N - 40)] 3)) w1.heap.size (.slice (some ⟨(w1.heap.size + 1), 0, none⟩) 2 2) (firstS N) := by rw [hF.out]; exact (OwnI.litAt _ _ [1, N - 40] _ 2 rfl rfl (by simp) (by simp) (by decide))
        have hBF : Below w1.heap.size w1 ((w1.alloc (Obj.cells #[Value.int IntKind.i64 2, Value.int IntKind.i64 (N - 80)] 3)).alloc (Obj.cells #[Value.int IntKind.i64 1, Value.int IntKind.i64 (N - 40)] 3)) := (((Below.refl _ _).alloc (Nat.le_refl _) _).alloc (by simp) _)
        go_loopw [4, 5, 6, 7] (fun _ a e v wr => ∃ (p L g c : Nat) (acc : List Int), a = .int .i64 p ∧ e = .int .i64 0 ∧ v = .slice (some ⟨g, 0, none⟩) L c ∧ p ≤ n ∧ Hid (L = acc.length) ∧ L ≤ 20 ∧ Hid (decS xs = decG xs acc p) ∧ OwnI wr w1.heap.size (.slice (some ⟨g, 0, none⟩) L c) acc ∧ Below w1.heap.size w1 wr) (fun _ a _ _ _ => n - (intOf a).toNat)
        case atStart => exact ⟨k, 2, _, 2, firstS N, rfl, rfl, rfl, hk, (firstS_len N).symm, by decide, hd, oF, hBF⟩
        case round =>
          obtain ⟨p, L, g, c, acc, rfl, rfl, rfl, hp, hL, hL20, hE, hO, hB⟩ := hrel
          have hBs := hB.size
          by_cases hlt : p < n
          · have hli : Hid (p < xs.length) := by unfold Hid; rw [HL.out]; exact hlt
            have pI : (p : Int) < (n : Int) := by omega
            by_cases h20 : L = 20
            · have hfin : Hid (decS xs = ([], 32)) := hE.out.trans (decG_many xs acc p hli.out (by rw [← hL.out]; exact h20))
              subst h20
              go_wp2
              refine bodyPost_ret (v := .tuple #[.slice none 0 0, .int .i64 32]) (by simp [results, Try.results19, go_sem]) rfl ⟨none, 0, 0, by rw [hfin.out], by rw [hfin.out]; exact OwnI.nil _ _, (hD.toBelow _).trans (hB.mono (by rw [hD.heap]; exact Nat.le_refl _))⟩
            · have hLb : ((L : Int) == 20) = false := by simp; omega
              have hb32 : Hid (acc.length ≠ 20) := by unfold Hid; rw [← hL.out]; exact h20
              have hcall := hide (refNext_any ao n cap xs p wr ((hs.heap hD.heap).below hB) hN hp)
              by_cases hz : (nextS (xs.drop p)).2.2 = 0
              · have hin := nextS_in (xs.drop p) hz
                have hst := hide (hE.out.trans (decG_next xs acc p hli.out hb32.out hz))
                obtain ⟨N2, k2, hnk⟩ : ∃ N2 k2, nextS (xs.drop p) = (N2, k2, 0) := ⟨(nextS (xs.drop p)).1, (nextS (xs.drop p)).2.1, by rw [← hz]⟩
                rw [nextV_ok hnk] at hcall
                rw [hnk] at hst hin
                have hst : Hid (decS xs = decG xs (acc ++ [N2]) (p + k2)) := hst
                have q0 : 0 ≤ N2 := hin.1
                have q1 : N2 ≤ 2147483647 := hin.2.1
                have q2 : 0 < k2 := hin.2.2.1
                have q3 : p + k2 ≤ n := by have h1 := hin.2.2.2; have h2 := HL.out; rw [List.length_drop] at h1; have h3 : k2 ≤ xs.length - p := h1; omega
                have hln : Hid ((acc ++ [N2]).length = L + 1) := by unfold Hid; rw [List.length_append, hL.out]; rfl
                clear hnk hin hz
                go_wp2_with (first | (go_at_call 39; refine hcall.out.mono ?_; rintro e w3 ⟨rfl, D3⟩; have z3 : Hid (w3.heap.size = wr.heap.size) := by (unfold Hid; rw [D3.heap])) | (at_builtin; refine wpList_appIN _ rfl (.tmp 46) (.tmp 48) rfl w1.heap.size (.slice (some ⟨g, 0, none⟩) L c) acc rfl ((hO.heap D3.heap).alloc _) (some ⟨w3.heap.size, 0, none⟩) 1 1 [N2] rfl (SrcI.lit [N2] _ 1 rfl rfl (by simp; omega) (by decide)) (L + 1) hln.out (.inl (by simp)) (by omega) (by have := z3.out; simp; omega) ?_; intro g4 c4 w4 ho4 hb4 hl4 hc4 hm4 hg4))
                have hB4 : Below w1.heap.size w1 w4 := ((D3.below hB).alloc (by have := z3.out; omega) _).grown hg4 (by have := z3.out; simp; omega) (by intro q hq; cases hq; exact (hO.lt g rfl).1)
                go_roundw
                case rel => exact ⟨p + k2, L + 1, g4, c4, acc ++ [N2], by simp, rfl, rfl, q3, hln.out.symm, by omega, hst, ho4, hB4⟩
                case measure => simp [intOf]; omega
              · have hst := hide (hE.out.trans (decG_bad xs acc p hli.out hb32.out hz))
                rw [nextV_bad hz] at hcall
                have hzb : ((nextS (xs.drop p)).2.2 != 0) = true := by simpa using hz
                generalize (nextS (xs.drop p)).2.2 = E at hcall hst hzb
                generalize (nextS (xs.drop p)).1 = N2 at hcall
                clear hz
                go_wp2_with (go_at_call 39; refine hcall.out.mono ?_; rintro e w3 ⟨rfl, D3⟩)
                refine bodyPost_ret (v := .tuple #[.slice none 0 0, .int .i64 E]) (by simp [results, Try.results19, go_sem]) rfl ⟨none, 0, 0, by rw [hst.out], by rw [hst.out]; exact OwnI.nil _ _, (hD.toBelow _).trans ((D3.below hB).mono (by rw [hD.heap]; exact Nat.le_refl _))⟩
          · have hfin : Hid (decS xs = (acc, 0)) := hE.out.trans (decG_end xs acc p (by rw [HL.out]; exact hlt))
            have pI : ¬ (p : Int) < (n : Int) := by omega
            go_wp2
            refine bodyPost_ret (v := .tuple #[.slice (some ⟨g, 0, none⟩) L c, .int .i64 0]) (by simp [results, Try.results19, go_sem]) rfl ⟨_, L, c, by rw [hfin.out], by rw [hfin.out]; exact hO.rebase (by rw [hD.heap]; exact Nat.le_refl _), (hD.toBelow _).trans (hB.mono (by rw [hD.heap]; exact Nat.le_refl _))⟩
      · have hb40 : decide (N < 40) = false := decide_eq_false h40
        have hb80 : decide (N < 80) = false := decide_eq_false h80
        go_wp2
        have hF := hide (show firstS N = [2, N - 80] by unfold firstS; rw [if_neg (by omega), if_neg (by omega)])
        have oF : OwnI (w1.alloc (Obj.cells #[Value.int IntKind.i64 2, Value.int IntKind.i64 (N - 80)] 3)) w1.heap.size (.slice (some ⟨w1.heap.size, 0, none⟩) 2 2) (firstS N) := by rw [hF.out]; exact (OwnI.litAt _ _ [2, N - 80] _ 2 rfl rfl rfl (Nat.le_refl _) (by decide))
        have hBF : Below w1.heap.size w1 (w1.alloc (Obj.cells #[Value.int IntKind.i64 2, Value.int IntKind.i64 (N - 80)] 3)) := ((Below.refl _ _).alloc (Nat.le_refl _) _)
        go_loopw [4, 5, 6, 7] (fun _ a e v wr => ∃ (p L g c : Nat) (acc : List Int), a = .int .i64 p ∧ e = .int .i64 0 ∧ v = .slice (some ⟨g, 0, none⟩) L c ∧ p ≤ n ∧ Hid (L = acc.length) ∧ L ≤ 20 ∧ Hid (decS xs = decG xs acc p) ∧ OwnI wr w1.heap.size (.slice (some ⟨g, 0, none⟩) L c) acc ∧ Below w1.heap.size w1 wr) (fun _ a _ _ _ => n - (intOf a).toNat)
        case atStart => exact ⟨k, 2, _, 2, firstS N, rfl, rfl, rfl, hk, (firstS_len N).symm, by decide, hd, oF, hBF⟩
        case round =>
          obtain ⟨p, L, g, c, acc, rfl, rfl, rfl, hp, hL, hL20, hE, hO, hB⟩ := hrel
          have hBs := hB.size
          by_cases hlt : p < n
          · have hli : Hid (p < xs.length) := by unfold Hid; rw [HL.out]; exact hlt
            have pI : (p : Int) < (n : Int) := by omega
            by_cases h20 : L = 20
            · have hfin : Hid (decS xs = ([], 32)) := hE.out.trans (decG_many xs acc p hli.out (by rw [← hL.out]; exact h20))
              subst h20
              go_wp2
              refine bodyPost_ret (v := .tuple #[.slice none 0 0, .int .i64 32]) (by simp [results, Try.results19, go_sem]) rfl ⟨none, 0, 0, by rw [hfin.out], by rw [hfin.out]; exact OwnI.nil _ _, (hD.toBelow _).trans (hB.mono (by rw [hD.heap]; exact Nat.le_refl _))⟩
            · have hLb : ((L : Int) == 20) = false := by simp; omega
              have hb32 : Hid (acc.length ≠ 20) := by unfold Hid; rw [← hL.out]; exact h20
              have hcall := hide (refNext_any ao n cap xs p wr ((hs.heap hD.heap).below hB) hN hp)
              by_cases hz : (nextS (xs.drop p)).2.2 = 0
              · have hin := nextS_in (xs.drop p) hz
                have hst := hide (hE.out.trans (decG_next xs acc p hli.out hb32.out hz))
                obtain ⟨N2, k2, hnk⟩ : ∃ N2 k2, nextS (xs.drop p) = (N2, k2, 0) := ⟨(nextS (xs.drop p)).1, (nextS (xs.drop p)).2.1, by rw [← hz]⟩
                rw [nextV_ok hnk] at hcall
                rw [hnk] at hst hin
                have hst : Hid (decS xs = decG xs (acc ++ [N2]) (p + k2)) := hst
                have q0 : 0 ≤ N2 := hin.1
                have q1 : N2 ≤ 2147483647 := hin.2.1
                have q2 : 0 < k2 := hin.2.2.1
                have q3 : p + k2 ≤ n := by have h1 := hin.2.2.2; have h2 := HL.out; rw [List.length_drop] at h1; have h3 : k2 ≤ xs.length - p := h1; omega
                have hln : Hid ((acc ++ [N2]).length = L + 1) := by unfold Hid; rw [List.length_append, hL.out]; rfl
                clear hnk hin hz
                go_wp2_with (first | (go_at_call 39; refine hcall.out.mono ?_; rintro e w3 ⟨rfl, D3⟩; have z3 : Hid (w3.heap.size = wr.heap.size) := by (unfold Hid; rw [D3.heap])) | (at_builtin; refine wpList_appIN _ rfl (.tmp 46) (.tmp 48) rfl w1.heap.size (.slice (some ⟨g, 0, none⟩) L c) acc rfl ((hO.heap D3.heap).alloc _) (some ⟨w3.heap.size, 0, none⟩) 1 1 [N2] rfl (SrcI.lit [N2] _ 1 rfl rfl (by simp; omega) (by decide)) (L + 1) hln.out (.inl (by simp)) (by omega) (by have := z3.out; simp; omega) ?_; intro g4 c4 w4 ho4 hb4 hl4 hc4 hm4 hg4))
                have hB4 : Below w1.heap.size w1 w4 := ((D3.below hB).alloc (by have := z3.out; omega) _).grown hg4 (by have := z3.out; simp; omega) (by intro q hq; cases hq; exact (hO.lt g rfl).1)
                go_roundw
                case rel => exact ⟨p + k2, L + 1, g4, c4, acc ++ [N2], by simp, rfl, rfl, q3, hln.out.symm, by omega, hst, ho4, hB4⟩
                case measure => simp [intOf]; omega
              · have hst := hide (hE.out.trans (decG_bad xs acc p hli.out hb32.out hz))
                rw [nextV_bad hz] at hcall
                have hzb : ((nextS (xs.drop p)).2.2 != 0) = true := by simpa using hz
                generalize (nextS (xs.drop p)).2.2 = E at hcall hst hzb
                generalize (nextS (xs.drop p)).1 = N2 at hcall
                clear hz
                go_wp2_with (go_at_call 39; refine hcall.out.mono ?_; rintro e w3 ⟨rfl, D3⟩)
                refine bodyPost_ret (v := .tuple #[.slice none 0 0, .int .i64 E]) (by simp [results, Try.results19, go_sem]) rfl ⟨none, 0, 0, by rw [hst.out], by rw [hst.out]; exact OwnI.nil _ _, (hD.toBelow _).trans ((D3.below hB).mono (by rw [hD.heap]; exact Nat.le_refl _))⟩
          · have hfin : Hid (decS xs = (acc, 0)) := hE.out.trans (decG_end xs acc p (by rw [HL.out]; exact hlt))
            have pI : ¬ (p : Int) < (n : Int) := by omega
            go_wp2
            refine bodyPost_ret (v := .tuple #[.slice (some ⟨g, 0, none⟩) L c, .int .i64 0]) (by simp [results, Try.results19, go_sem]) rfl ⟨_, L, c, by rw [hfin.out], by rw [hfin.out]; exact hO.rebase (by rw [hD.heap]; exact Nat.le_refl _), (hD.toBelow _).trans (hB.mono (by rw [hD.heap]; exact Nat.le_refl _))⟩
  · have hd := hide (show decS xs = ([], (nextS xs).2.2) by unfold decS; rw [if_neg he])
    rw [nextV_bad he] at HC
    have hzb : ((nextS xs).2.2 != 0) = true := by simpa using he
    generalize (nextS xs).2.2 = E at HC hd hzb
    generalize (nextS xs).1 = N2 at HC
    clear he
    have HC : Hid (Calls Try.prog 39 #[.slice ao n cap, .int .i64 0] w fun e w' => e = .returned (.tuple #[.int .i64 N2, .int .i64 0, .int .i64 E]) ∧ Drawn w w') := HC
    go_enter Try.func19, Try.ntmps19
    go_wp2_with fail
    refine HC.out.mono ?_
    rintro e w1 ⟨rfl, hD⟩
    go_wp2
    refine bodyPost_ret (v := .tuple #[.slice none 0 0, .int .i64 E]) (by simp [results, Try.results19, go_sem]) rfl ⟨none, 0, 0, by rw [hd.out], by rw [hd.out]; exact OwnI.nil _ _, hD.toBelow _⟩

end Go.Proofs.Ytlhibocacdjleaa
