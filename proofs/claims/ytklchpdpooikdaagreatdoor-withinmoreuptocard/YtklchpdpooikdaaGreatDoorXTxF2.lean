/-
  text.Fold lays what the document says.
-/
import Derived.Test.YtklchpdpooikdaaGreatDoorXTxW1ToTxF1
namespace Go.Proofs.YtklchpdpooikdaaGreatDoor
open Go.RowKit Go.Shelf Go.IntWalk
attribute [local go_sem] Oper.semAt_some setCell_qN alloc_qN
attribute [local go_sem ↓] appOf_of

theorem nd_of (ops : List Oper) (h : ops.all noDefer = true) : ∀ (i : Nat) o, ops.toArray[i]? = some o → ∀ c, o.op ≠ .defer c := by
  intro i o ho c hc
  have h1 := List.all_eq_true.1 h o (by simp at ho; exact List.mem_of_getElem? ho)
  simp [noDefer, hc] at h1

/-- What holds between two words. -/
def FJ (w : World) (s : ByteArray) (lp : Loop) (ws : List (List UInt8)) (W : World) : Prop := ∃ acc aO cO, FSt w s lp acc (.slice aO acc.length cO) none W ∧ lay acc ws = foldL s.data.toList ∧ acc.length + spanW ws ≤ s.size + 1
def Never (_ : World) : Prop := False

set_option maxRecDepth 100000 in
set_option maxHeartbeats 40000000 in
theorem fold_in (s : ByteArray) (hs : s.size + 1 ≤ 140737488355328) (w : World) :
    CallsIn Fence.wide 4 Tryz.prog 176 #[.string s] w fun e w' => e = .returned (.string ⟨(foldL s.data.toList).toArray⟩) ∧ Below w.heap.size w w' := by
  obtain ⟨i0, hi, hz0, hz1, hz2⟩ := info_parts Tryz.infoB
  obtain ⟨wm, hmk, hown, hgm⟩ := run_make_own (P := Tryz.prog) (w := w) w.heap.size 64 5 i0 (.int .u8 0) 1 Tryz.underlying64 hi hz0 hz1 .i64 .i64 s.size (by rw [hz2]; omega) (by unfold maxLen; omega) (Nat.le_refl _)
  have hwm : wm.heap.size = w.heap.size + 1 := by
    have h2 := run_make (P := Tryz.prog) (w := w) 64 5 i0 (.int .u8 0) Tryz.underlying64 hi hz0 .i64 .i64 0 (s.size : Int) (by omega) (by omega) (by rw [hz2]; omega) (by omega)
    rw [hmk] at h2
    have h3 := (Result.ok.inj h2).2
    rw [h3]
    simp
  clear hi hz0 hz1 hz2 i0
  refine callsIn_of_wp_marks Tryz.func176 rfl trivial ?_ rfl
  simp only [Tryz.ntmps176, List.size_toArray, List.length_cons, List.length_nil, Nat.reduceAdd, Nat.reduceSub, Array.replicate_succ, Array.replicate_zero, List.push_toArray, List.append_toArray, List.nil_append, List.cons_append]
  gi_wp2_with (refine ⟨trivial, ?_⟩; gi_at_call 188; refine (words_in _ _ _).mono ?_; rintro e w' ⟨rfl, rfl⟩)
  rename_i K0 hK0
  obtain ⟨W0, hW0⟩ : ∃ W0, (wm.alloc (.cells #[.slice (some ⟨w.heap.size, 0, none⟩) 0 s.size] 64)).alloc (.cells #[.string s] 9) = W0 := ⟨_, rfl⟩
  have b1 := (Boxed.new wm 64 (.slice (some ⟨w.heap.size, 0, none⟩) 0 s.size)).alloc (.cells #[.string s] 9)
  have b2 := Boxed.new (wm.alloc (.cells #[.slice (some ⟨w.heap.size, 0, none⟩) 0 s.size] 64)) 9 (.string s)
  have o1 : OwnB wm w.heap.size (.slice (some ⟨w.heap.size, 0, none⟩) 0 s.size) (nums []) := hown
  have o2 := (o1.alloc (.cells #[.slice (some ⟨w.heap.size, 0, none⟩) 0 s.size] 64)).alloc (.cells #[.string s] 9)
  have hB0 : Below w.heap.size w ((wm.alloc (.cells #[.slice (some ⟨w.heap.size, 0, none⟩) 0 s.size] 64)).alloc (.cells #[.string s] 9)) := ((below_of_grown hgm).alloc (by omega) _).alloc (by simp; omega) _
  have hsz : ((wm.alloc (.cells #[.slice (some ⟨w.heap.size, 0, none⟩) 0 s.size] 64)).alloc (.cells #[.string s] 9)).heap.size = w.heap.size + 3 := by simp [hwm]
  simp only [World.size_alloc] at b2
  rw [hwm] at b1 b2
  rw [hW0] at b1 b2 o2 hB0 hsz ⊢
  clear hW0 o1 hown hgm hmk hwm
  generalize hA : Act.mk _ _ = A
  have HK : ∀ (lp : Loop) (acc : List UInt8) (aO : Option Addr) (cO : Nat) (io : Option Obj) (W : World), FSt w s lp acc (.slice aO acc.length cO) io W → acc = foldL s.data.toList → K0 { A with defers := { target := .collected (w.heap.size + 3), args := #[] } :: A.defers } W := by
    intro lp acc aO cO io W hI hd
    subst hA
    refine hK0 _ _ ?_
    have hsrc := hI.row.toSrc (nums_bytes acc)
    have ht := hsrc.text
    rw [nums_text] at ht
    have c1 := hI.box.cell
    have HI := hide hI
    have hd' := hide hd
    clear hI hsrc b1 b2 o2 hB0 hd
    gi_wp2
    rw [← hd'.out]
    refine fold_leave w s lp acc _ io W _ _ ?_ HI.out
    rfl
  refine range_enter (F := Fence.wide) rfl (by decide) (gf := 198) (lb := #[.pointer (some ⟨w.heap.size + 1 + 1, 0, none⟩)]) (by subst hA; rfl) trivial (enters_of Tryz.func198 (by kernel_rfl) rfl) ?_
  intro fn hfn
  rw [hsz]
  generalize hrec : recOf _ _ _ _ _ _ = r
  have i0 : FSt w s (r .ready none) [] (.slice (some ⟨w.heap.size, 0, none⟩) 0 s.size) none ((W0.alloc (.deferred (some []))).alloc (.loop (r .ready none))) := by
    refine ⟨?_, ?_, (b1.alloc _).alloc _, (b2.alloc _).alloc _, (o2.alloc _).alloc _, by simp [Value.ownBlock], fun o e => (by cases e), (hB0.alloc (by omega) _).alloc (by simp; omega) _⟩
    · have := World.alloc_heap_new (W0.alloc (.deferred (some []))) (.loop (r .ready none)); rwa [World.size_alloc, hsz] at this
    · have := World.alloc_heap_new W0 (.deferred (some [])); rw [hsz] at this; rw [Below.heap_alloc _ _ _ (by simp; omega)]; exact this
  have hS5 : ((W0.alloc (.deferred (some []))).alloc (.loop (r .ready none))).heap.size = w.heap.size + 5 := by simp [hsz]
  generalize (W0.alloc (.deferred (some []))).alloc (.loop (r .ready none)) = W5 at i0 hS5 ⊢
  have hSL := size_len s
  refine (words1_in 3 (by decide) (w.heap.size + 3 + 1) (w.heap.size + 1 + 1) s (by omega) (FJ w s (r .ready none)) Never W5 (fun ws W1 h => by obtain ⟨acc, aO, cO, h, _⟩ := h; exact h.b2.cell) (fun ws W1 W2 h g => by rw [hS5] at g; obtain ⟨acc, aO, cO, h, hr⟩ := h; exact ⟨acc, aO, cO, h.grown g, hr⟩) ?_ ⟨[], _, _, i0, rfl, by have := spanW_le s.data.toList []; simp at this; unfold wordsL; simp; omega⟩).mono ?_
  · rintro u ws W1 p ⟨acc, aO, cO, hI, hrel, hlen⟩ hit hu1 hu2
    rw [hS5] at hit ⊢
    have hI2 := hI.tell _ hit
    have hl := hI.loop
    rw [← hrec] at hl
    subst hA
    refine range_round hfn (a₁ := ?A1) hl rfl ?_ ?_
    rotate_left
    · intro K hK
      gi_wp2
      exact hK
    · rw [hrec]
      have HI := hide (hI2.put (r .busy none))
      have hit := hide hit
      clear hl hI hI2 i0 HK hK0 b1 b2 o2 hB0
      generalize W1.putObj (w.heap.size + 3 + 1) (.loop (r .busy none)) = W2 at HI ⊢
      have c1 := HI.out.box.cell
      have f1 := HI.out.box.frozen
      have z1 := HI.out.box.lt
      have hus : Hid ((⟨u.toArray⟩ : ByteArray).size = u.length) := by unfold Hid; rfl
      have hub : Hid (∀ (k : Nat) (h : k < u.length) (h2 : k < (⟨u.toArray⟩ : ByteArray).size), ((⟨u.toArray⟩ : ByteArray)[k]'h2) = u[k]'h) := by intro k h h2; rfl
      have hg : Hid (gap acc = if acc.length = 0 then acc else acc ++ [32]) := rfl
      have hrel2 : Hid (lay (gap acc ++ u.map smallB) ws = foldL s.data.toList) := hrel
      have hln : Hid (acc.length + (u.length + 1 + spanW ws) ≤ s.size + 1) := hlen
      clear hrel hlen hrec
      by_cases ha : acc.length = 0
      · rw [if_pos ha] at hg
        have hG : Hid (FSt w s (r .busy none) (gap acc) (.slice aO (gap acc).length cO) (some (.stringIter s p)) W2) := by unfold Hid; rw [hg.out]; exact HI.out
        rw [ha] at c1
        have hgl : Hid ((gap acc).length ≤ acc.length + 1) := by unfold Hid; rw [hg.out]; omega
        clear hg HI
        gi_wp2
        clear c1 f1 z1
        gi_loopw [20] (fun i wr => ∃ (k : Nat) (aP : Option Addr) (cP : Nat), i = .int .i64 k ∧ k ≤ u.length ∧ Hid (FSt w s (r .busy none) (gap acc ++ (u.take k).map smallB) (.slice aP (gap acc ++ (u.take k).map smallB).length cP) (some (.stringIter s p)) wr)) (fun i _ => u.length - (intOf i).toNat)
        case atStart => exact ⟨0, _, _, rfl, Nat.zero_le _, by simpa using hG⟩
        case round =>
          obtain ⟨k, aP, cP, rfl, hk, HR⟩ := hrel
          by_cases hlt : k < u.length
          · have hsz : k < (⟨u.toArray⟩ : ByteArray).size := by rw [hus.out]; exact hlt
            have hbyte := hub.out k hlt hsz
            have hcall := hide (fun X => small_any (u[k]'hlt) X)
            have hnext := hide (take_nextI u k hlt)
            have hbnd : Hid ((gap acc ++ (u.take k).map smallB).length + 1 ≤ 140737488355328) := by unfold Hid; have h1 := hgl.out; have h2 := hln.out; simp; omega
            have hltI : (k : Int) < (u.length : Int) := by omega
            have hnx : Hid (gap acc ++ (u.take (k + 1)).map smallB = (gap acc ++ (u.take k).map smallB) ++ [smallB (u[k]'hlt)]) := by unfold Hid; rw [hnext.out, List.append_assoc]
            generalize smallB (u[k]'hlt) = N at hcall hnx
            generalize hub2 : u[k]'hlt = ub at hcall hbyte
            clear hub2 hnext hG
            gi_wp2
            rename_i K1 hK1
            have HK2 := hide hK1
            clear hK1
            refine wpIn_region_any (by kernel_rfl) (wpAnyIn_inRound (F := Fence.wide) _ rfl (nd_of _ (by kernel_rfl)) _ _ _ _ ?_)
            change wpAnyIn _ _ _ _ _ _ _ _ _ (World.drew _)
            have P1 : Hid (FSt w s (r .busy none) (gap acc ++ (u.take k).map smallB) (.slice aP (gap acc ++ (u.take k).map smallB).length cP) (some (.stringIter s p)) (World.drew wr)) := HR.out.heap ⟨rfl, rfl, rfl, rfl⟩
            generalize hcur : gap acc ++ (u.take k).map smallB = cur at P1 hbnd hnx
            clear hcur HR
            generalize World.drew wr = wd at P1 ⊢
            obtain ⟨g4, c4, w4, hrun, ho4, hg4⟩ := app_byte P1.out.row N hbnd.out P1.out.bel.size
            have c11 := P1.out.box.cell
            have z11 := P1.out.box.lt
            have a2 := P1.out.boxed _ hg4
            have cA := a2.cell
            have fA := a2.frozen
            have P4 : Hid (FSt w s (r .busy none) (gap acc ++ (u.take (k + 1)).map smallB) (.slice (some ⟨g4, 0, none⟩) (gap acc ++ (u.take (k + 1)).map smallB).length c4) (some (.stringIter s p)) (w4.setCell ⟨w.heap.size + 1, 0, none⟩ (.slice (some ⟨g4, 0, none⟩) (cur.length + 1) c4))) := by
              have h := P1.out.append _ hg4 ho4
              unfold Hid
              rw [hnx.out]
              have e : (cur ++ [N]).length = cur.length + 1 := by simp
              rw [e]
              exact h
            clear a2 ho4 hg4 P1 hnx
            refine wpAnyIn_ready (rs := [0, 1, 2]) (by kernel_rfl) (by simp) ?_
            refine AllReadyIn.cons rfl (fun K hK => ?_) (AllReadyIn.cons rfl (fun K hK => ?_) (AllReadyIn.cons rfl (fun K hK => ?_) AllReadyIn.nil))
            · go_simp
              refine hK _ _ ?_
              clear hK K
              refine wpAnyIn_ready (rs := [1, 2]) (by kernel_rfl) (by simp) ?_
              refine AllReadyIn.cons rfl (fun K hK => ?_) (AllReadyIn.cons rfl (fun K hK => ?_) AllReadyIn.nil)
              · go_simp
                refine hK _ _ ?_
                clear hK K
                refine wpAnyIn_ready (rs := [2]) (by kernel_rfl) (by simp) ?_
                refine AllReadyIn.cons rfl (fun K hK => ?_) AllReadyIn.nil
                go_simp
                refine hK _ _ ?_
                clear hK K
                refine wpAnyIn_ready (rs := [3]) (by kernel_rfl) (by simp) ?_
                refine AllReadyIn.cons rfl (fun K hK => ?_) AllReadyIn.nil
                go_simp
                refine hK _ _ ?_
                clear hK K
                refine wpAnyIn_ready (rs := [4]) (by kernel_rfl) (by simp) ?_
                refine AllReadyIn.cons rfl (fun K hK => ?_) AllReadyIn.nil
                go_simp
                refine ⟨trivial, ?_⟩
                refine (callsIn_wide.2 (hcall.out _)).mono ?_
                rintro e w1 ⟨rfl, rfl⟩
                refine hK _ _ ?_
                clear hK K
                refine wpAnyIn_ready (rs := [5]) (by kernel_rfl) (by simp) ?_
                refine AllReadyIn.cons rfl (fun K hK => ?_) AllReadyIn.nil
                go_simp
                refine hK _ _ ?_
                clear hK K
                refine wpAnyIn_ready (rs := [6]) (by kernel_rfl) (by simp) ?_
                refine AllReadyIn.cons rfl (fun K hK => ?_) AllReadyIn.nil
                go_simp
                refine hK _ _ ?_
                clear hK K
                refine wpAnyIn_ready (rs := [7]) (by kernel_rfl) (by simp) ?_
                refine AllReadyIn.cons rfl (fun K hK => ?_) AllReadyIn.nil
                go_simp
                refine hK _ _ ?_
                clear hK K
                refine wpAnyIn_done (by kernel_rfl) ?_ _
                refine HK2.out _ _ ?_
                generalize w4.setCell ⟨w.heap.size + 1, 0, none⟩ (Value.slice (some ⟨g4, 0, none⟩) (cur.length + 1) c4) = w7 at P4 ⊢
                clear cA fA hrun c11
                gi_wp2
                exact ⟨⟨k + 1, _, _, by simp, by omega, P4⟩, by simp [intOf]; omega⟩
              · go_simp
                refine hK _ _ ?_
                clear hK K
                refine wpAnyIn_ready (rs := [1]) (by kernel_rfl) (by simp) ?_
                refine AllReadyIn.cons rfl (fun K hK => ?_) AllReadyIn.nil
                go_simp
                refine hK _ _ ?_
                clear hK K
                refine wpAnyIn_ready (rs := [3]) (by kernel_rfl) (by simp) ?_
                refine AllReadyIn.cons rfl (fun K hK => ?_) AllReadyIn.nil
                go_simp
                refine hK _ _ ?_
                clear hK K
                refine wpAnyIn_ready (rs := [4]) (by kernel_rfl) (by simp) ?_
                refine AllReadyIn.cons rfl (fun K hK => ?_) AllReadyIn.nil
                go_simp
                refine ⟨trivial, ?_⟩
                refine (callsIn_wide.2 (hcall.out _)).mono ?_
                rintro e w1 ⟨rfl, rfl⟩
                refine hK _ _ ?_
                clear hK K
                refine wpAnyIn_ready (rs := [5]) (by kernel_rfl) (by simp) ?_
                refine AllReadyIn.cons rfl (fun K hK => ?_) AllReadyIn.nil
                go_simp
                refine hK _ _ ?_
                clear hK K
                refine wpAnyIn_ready (rs := [6]) (by kernel_rfl) (by simp) ?_
                refine AllReadyIn.cons rfl (fun K hK => ?_) AllReadyIn.nil
                go_simp
                refine hK _ _ ?_
                clear hK K
                refine wpAnyIn_ready (rs := [7]) (by kernel_rfl) (by simp) ?_
                refine AllReadyIn.cons rfl (fun K hK => ?_) AllReadyIn.nil
                go_simp
                refine hK _ _ ?_
                clear hK K
                refine wpAnyIn_done (by kernel_rfl) ?_ _
                refine HK2.out _ _ ?_
                generalize w4.setCell ⟨w.heap.size + 1, 0, none⟩ (Value.slice (some ⟨g4, 0, none⟩) (cur.length + 1) c4) = w7 at P4 ⊢
                clear cA fA hrun c11
                gi_wp2
                exact ⟨⟨k + 1, _, _, by simp, by omega, P4⟩, by simp [intOf]; omega⟩
            · go_simp
              refine hK _ _ ?_
              clear hK K
              refine wpAnyIn_ready (rs := [0, 2]) (by kernel_rfl) (by simp) ?_
              refine AllReadyIn.cons rfl (fun K hK => ?_) (AllReadyIn.cons rfl (fun K hK => ?_) AllReadyIn.nil)
              · go_simp
                refine hK _ _ ?_
                clear hK K
                refine wpAnyIn_ready (rs := [2]) (by kernel_rfl) (by simp) ?_
                refine AllReadyIn.cons rfl (fun K hK => ?_) AllReadyIn.nil
                go_simp
                refine hK _ _ ?_
                clear hK K
                refine wpAnyIn_ready (rs := [3]) (by kernel_rfl) (by simp) ?_
                refine AllReadyIn.cons rfl (fun K hK => ?_) AllReadyIn.nil
                go_simp
                refine hK _ _ ?_
                clear hK K
                refine wpAnyIn_ready (rs := [4]) (by kernel_rfl) (by simp) ?_
                refine AllReadyIn.cons rfl (fun K hK => ?_) AllReadyIn.nil
                go_simp
                refine ⟨trivial, ?_⟩
                refine (callsIn_wide.2 (hcall.out _)).mono ?_
                rintro e w1 ⟨rfl, rfl⟩
                refine hK _ _ ?_
                clear hK K
                refine wpAnyIn_ready (rs := [5]) (by kernel_rfl) (by simp) ?_
                refine AllReadyIn.cons rfl (fun K hK => ?_) AllReadyIn.nil
                go_simp
                refine hK _ _ ?_
                clear hK K
                refine wpAnyIn_ready (rs := [6]) (by kernel_rfl) (by simp) ?_
                refine AllReadyIn.cons rfl (fun K hK => ?_) AllReadyIn.nil
                go_simp
                refine hK _ _ ?_
                clear hK K
                refine wpAnyIn_ready (rs := [7]) (by kernel_rfl) (by simp) ?_
                refine AllReadyIn.cons rfl (fun K hK => ?_) AllReadyIn.nil
                go_simp
                refine hK _ _ ?_
                clear hK K
                refine wpAnyIn_done (by kernel_rfl) ?_ _
                refine HK2.out _ _ ?_
                generalize w4.setCell ⟨w.heap.size + 1, 0, none⟩ (Value.slice (some ⟨g4, 0, none⟩) (cur.length + 1) c4) = w7 at P4 ⊢
                clear cA fA hrun c11
                gi_wp2
                exact ⟨⟨k + 1, _, _, by simp, by omega, P4⟩, by simp [intOf]; omega⟩
              · go_simp
                refine hK _ _ ?_
                clear hK K
                refine wpAnyIn_ready (rs := [0, 3]) (by kernel_rfl) (by simp) ?_
                refine AllReadyIn.cons rfl (fun K hK => ?_) (AllReadyIn.cons rfl (fun K hK => ?_) AllReadyIn.nil)
                · go_simp
                  refine hK _ _ ?_
                  clear hK K
                  refine wpAnyIn_ready (rs := [3]) (by kernel_rfl) (by simp) ?_
                  refine AllReadyIn.cons rfl (fun K hK => ?_) AllReadyIn.nil
                  go_simp
                  refine hK _ _ ?_
                  clear hK K
                  refine wpAnyIn_ready (rs := [4]) (by kernel_rfl) (by simp) ?_
                  refine AllReadyIn.cons rfl (fun K hK => ?_) AllReadyIn.nil
                  go_simp
                  refine ⟨trivial, ?_⟩
                  refine (callsIn_wide.2 (hcall.out _)).mono ?_
                  rintro e w1 ⟨rfl, rfl⟩
                  refine hK _ _ ?_
                  clear hK K
                  refine wpAnyIn_ready (rs := [5]) (by kernel_rfl) (by simp) ?_
                  refine AllReadyIn.cons rfl (fun K hK => ?_) AllReadyIn.nil
                  go_simp
                  refine hK _ _ ?_
                  clear hK K
                  refine wpAnyIn_ready (rs := [6]) (by kernel_rfl) (by simp) ?_
                  refine AllReadyIn.cons rfl (fun K hK => ?_) AllReadyIn.nil
                  go_simp
                  refine hK _ _ ?_
                  clear hK K
                  refine wpAnyIn_ready (rs := [7]) (by kernel_rfl) (by simp) ?_
                  refine AllReadyIn.cons rfl (fun K hK => ?_) AllReadyIn.nil
                  go_simp
                  refine hK _ _ ?_
                  clear hK K
                  refine wpAnyIn_done (by kernel_rfl) ?_ _
                  refine HK2.out _ _ ?_
                  generalize w4.setCell ⟨w.heap.size + 1, 0, none⟩ (Value.slice (some ⟨g4, 0, none⟩) (cur.length + 1) c4) = w7 at P4 ⊢
                  clear cA fA hrun c11
                  gi_wp2
                  exact ⟨⟨k + 1, _, _, by simp, by omega, P4⟩, by simp [intOf]; omega⟩
                · go_simp
                  refine hK _ _ ?_
                  clear hK K
                  refine wpAnyIn_ready (rs := [0, 4]) (by kernel_rfl) (by simp) ?_
                  refine AllReadyIn.cons rfl (fun K hK => ?_) (AllReadyIn.cons rfl (fun K hK => ?_) AllReadyIn.nil)
                  · go_simp
                    refine hK _ _ ?_
                    clear hK K
                    refine wpAnyIn_ready (rs := [4]) (by kernel_rfl) (by simp) ?_
                    refine AllReadyIn.cons rfl (fun K hK => ?_) AllReadyIn.nil
                    go_simp
                    refine ⟨trivial, ?_⟩
                    refine (callsIn_wide.2 (hcall.out _)).mono ?_
                    rintro e w1 ⟨rfl, rfl⟩
                    refine hK _ _ ?_
                    clear hK K
                    refine wpAnyIn_ready (rs := [5]) (by kernel_rfl) (by simp) ?_
                    refine AllReadyIn.cons rfl (fun K hK => ?_) AllReadyIn.nil
                    go_simp
                    refine hK _ _ ?_
                    clear hK K
                    refine wpAnyIn_ready (rs := [6]) (by kernel_rfl) (by simp) ?_
                    refine AllReadyIn.cons rfl (fun K hK => ?_) AllReadyIn.nil
                    go_simp
                    refine hK _ _ ?_
                    clear hK K
                    refine wpAnyIn_ready (rs := [7]) (by kernel_rfl) (by simp) ?_
                    refine AllReadyIn.cons rfl (fun K hK => ?_) AllReadyIn.nil
                    go_simp
                    refine hK _ _ ?_
                    clear hK K
                    refine wpAnyIn_done (by kernel_rfl) ?_ _
                    refine HK2.out _ _ ?_
                    generalize w4.setCell ⟨w.heap.size + 1, 0, none⟩ (Value.slice (some ⟨g4, 0, none⟩) (cur.length + 1) c4) = w7 at P4 ⊢
                    clear cA fA hrun c11
                    gi_wp2
                    exact ⟨⟨k + 1, _, _, by simp, by omega, P4⟩, by simp [intOf]; omega⟩
                  · go_simp
                    refine ⟨trivial, ?_⟩
                    refine (callsIn_wide.2 (hcall.out _)).mono ?_
                    rintro e w1 ⟨rfl, rfl⟩
                    refine hK _ _ ?_
                    clear hK K
                    refine wpAnyIn_ready (rs := [0, 5]) (by kernel_rfl) (by simp) ?_
                    refine AllReadyIn.cons rfl (fun K hK => ?_) (AllReadyIn.cons rfl (fun K hK => ?_) AllReadyIn.nil)
                    · go_simp
                      refine hK _ _ ?_
                      clear hK K
                      refine wpAnyIn_ready (rs := [5]) (by kernel_rfl) (by simp) ?_
                      refine AllReadyIn.cons rfl (fun K hK => ?_) AllReadyIn.nil
                      go_simp
                      refine hK _ _ ?_
                      clear hK K
                      refine wpAnyIn_ready (rs := [6]) (by kernel_rfl) (by simp) ?_
                      refine AllReadyIn.cons rfl (fun K hK => ?_) AllReadyIn.nil
                      go_simp
                      refine hK _ _ ?_
                      clear hK K
                      refine wpAnyIn_ready (rs := [7]) (by kernel_rfl) (by simp) ?_
                      refine AllReadyIn.cons rfl (fun K hK => ?_) AllReadyIn.nil
                      go_simp
                      refine hK _ _ ?_
                      clear hK K
                      refine wpAnyIn_done (by kernel_rfl) ?_ _
                      refine HK2.out _ _ ?_
                      generalize w4.setCell ⟨w.heap.size + 1, 0, none⟩ (Value.slice (some ⟨g4, 0, none⟩) (cur.length + 1) c4) = w7 at P4 ⊢
                      clear cA fA hrun c11
                      gi_wp2
                      exact ⟨⟨k + 1, _, _, by simp, by omega, P4⟩, by simp [intOf]; omega⟩
                    · go_simp
                      refine hK _ _ ?_
                      clear hK K
                      refine wpAnyIn_ready (rs := [0]) (by kernel_rfl) (by simp) ?_
                      refine AllReadyIn.cons rfl (fun K hK => ?_) AllReadyIn.nil
                      go_simp
                      refine hK _ _ ?_
                      clear hK K
                      refine wpAnyIn_ready (rs := [6]) (by kernel_rfl) (by simp) ?_
                      refine AllReadyIn.cons rfl (fun K hK => ?_) AllReadyIn.nil
                      go_simp
                      refine hK _ _ ?_
                      clear hK K
                      refine wpAnyIn_ready (rs := [7]) (by kernel_rfl) (by simp) ?_
                      refine AllReadyIn.cons rfl (fun K hK => ?_) AllReadyIn.nil
                      go_simp
                      refine hK _ _ ?_
                      clear hK K
                      refine wpAnyIn_done (by kernel_rfl) ?_ _
                      refine HK2.out _ _ ?_
                      generalize w4.setCell ⟨w.heap.size + 1, 0, none⟩ (Value.slice (some ⟨g4, 0, none⟩) (cur.length + 1) c4) = w7 at P4 ⊢
                      clear cA fA hrun c11
                      gi_wp2
                      exact ⟨⟨k + 1, _, _, by simp, by omega, P4⟩, by simp [intOf]; omega⟩
            · go_simp
              refine hK _ _ ?_
              clear hK K
              refine wpAnyIn_ready (rs := [0, 1]) (by kernel_rfl) (by simp) ?_
              refine AllReadyIn.cons rfl (fun K hK => ?_) (AllReadyIn.cons rfl (fun K hK => ?_) AllReadyIn.nil)
              · go_simp
                refine hK _ _ ?_
                clear hK K
                refine wpAnyIn_ready (rs := [1]) (by kernel_rfl) (by simp) ?_
                refine AllReadyIn.cons rfl (fun K hK => ?_) AllReadyIn.nil
                go_simp
                refine hK _ _ ?_
                clear hK K
                refine wpAnyIn_ready (rs := [3]) (by kernel_rfl) (by simp) ?_
                refine AllReadyIn.cons rfl (fun K hK => ?_) AllReadyIn.nil
                go_simp
                refine hK _ _ ?_
                clear hK K
                refine wpAnyIn_ready (rs := [4]) (by kernel_rfl) (by simp) ?_
                refine AllReadyIn.cons rfl (fun K hK => ?_) AllReadyIn.nil
                go_simp
                refine ⟨trivial, ?_⟩
                refine (callsIn_wide.2 (hcall.out _)).mono ?_
                rintro e w1 ⟨rfl, rfl⟩
                refine hK _ _ ?_
                clear hK K
                refine wpAnyIn_ready (rs := [5]) (by kernel_rfl) (by simp) ?_
                refine AllReadyIn.cons rfl (fun K hK => ?_) AllReadyIn.nil
                go_simp
                refine hK _ _ ?_
                clear hK K
                refine wpAnyIn_ready (rs := [6]) (by kernel_rfl) (by simp) ?_
                refine AllReadyIn.cons rfl (fun K hK => ?_) AllReadyIn.nil
                go_simp
                refine hK _ _ ?_
                clear hK K
                refine wpAnyIn_ready (rs := [7]) (by kernel_rfl) (by simp) ?_
                refine AllReadyIn.cons rfl (fun K hK => ?_) AllReadyIn.nil
                go_simp
                refine hK _ _ ?_
                clear hK K
                refine wpAnyIn_done (by kernel_rfl) ?_ _
                refine HK2.out _ _ ?_
                generalize w4.setCell ⟨w.heap.size + 1, 0, none⟩ (Value.slice (some ⟨g4, 0, none⟩) (cur.length + 1) c4) = w7 at P4 ⊢
                clear cA fA hrun c11
                gi_wp2
                exact ⟨⟨k + 1, _, _, by simp, by omega, P4⟩, by simp [intOf]; omega⟩
              · go_simp
                refine hK _ _ ?_
                clear hK K
                refine wpAnyIn_ready (rs := [0, 3]) (by kernel_rfl) (by simp) ?_
                refine AllReadyIn.cons rfl (fun K hK => ?_) (AllReadyIn.cons rfl (fun K hK => ?_) AllReadyIn.nil)
                · go_simp
                  refine hK _ _ ?_
                  clear hK K
                  refine wpAnyIn_ready (rs := [3]) (by kernel_rfl) (by simp) ?_
                  refine AllReadyIn.cons rfl (fun K hK => ?_) AllReadyIn.nil
                  go_simp
                  refine hK _ _ ?_
                  clear hK K
                  refine wpAnyIn_ready (rs := [4]) (by kernel_rfl) (by simp) ?_
                  refine AllReadyIn.cons rfl (fun K hK => ?_) AllReadyIn.nil
                  go_simp
                  refine ⟨trivial, ?_⟩
                  refine (callsIn_wide.2 (hcall.out _)).mono ?_
                  rintro e w1 ⟨rfl, rfl⟩
                  refine hK _ _ ?_
                  clear hK K
                  refine wpAnyIn_ready (rs := [5]) (by kernel_rfl) (by simp) ?_
                  refine AllReadyIn.cons rfl (fun K hK => ?_) AllReadyIn.nil
                  go_simp
                  refine hK _ _ ?_
                  clear hK K
                  refine wpAnyIn_ready (rs := [6]) (by kernel_rfl) (by simp) ?_
                  refine AllReadyIn.cons rfl (fun K hK => ?_) AllReadyIn.nil
                  go_simp
                  refine hK _ _ ?_
                  clear hK K
                  refine wpAnyIn_ready (rs := [7]) (by kernel_rfl) (by simp) ?_
                  refine AllReadyIn.cons rfl (fun K hK => ?_) AllReadyIn.nil
                  go_simp
                  refine hK _ _ ?_
                  clear hK K
                  refine wpAnyIn_done (by kernel_rfl) ?_ _
                  refine HK2.out _ _ ?_
                  generalize w4.setCell ⟨w.heap.size + 1, 0, none⟩ (Value.slice (some ⟨g4, 0, none⟩) (cur.length + 1) c4) = w7 at P4 ⊢
                  clear cA fA hrun c11
                  gi_wp2
                  exact ⟨⟨k + 1, _, _, by simp, by omega, P4⟩, by simp [intOf]; omega⟩
                · go_simp
                  refine hK _ _ ?_
                  clear hK K
                  refine wpAnyIn_ready (rs := [0, 4]) (by kernel_rfl) (by simp) ?_
                  refine AllReadyIn.cons rfl (fun K hK => ?_) (AllReadyIn.cons rfl (fun K hK => ?_) AllReadyIn.nil)
                  · go_simp
                    refine hK _ _ ?_
                    clear hK K
                    refine wpAnyIn_ready (rs := [4]) (by kernel_rfl) (by simp) ?_
                    refine AllReadyIn.cons rfl (fun K hK => ?_) AllReadyIn.nil
                    go_simp
                    refine ⟨trivial, ?_⟩
                    refine (callsIn_wide.2 (hcall.out _)).mono ?_
                    rintro e w1 ⟨rfl, rfl⟩
                    refine hK _ _ ?_
                    clear hK K
                    refine wpAnyIn_ready (rs := [5]) (by kernel_rfl) (by simp) ?_
                    refine AllReadyIn.cons rfl (fun K hK => ?_) AllReadyIn.nil
                    go_simp
                    refine hK _ _ ?_
                    clear hK K
                    refine wpAnyIn_ready (rs := [6]) (by kernel_rfl) (by simp) ?_
                    refine AllReadyIn.cons rfl (fun K hK => ?_) AllReadyIn.nil
                    go_simp
                    refine hK _ _ ?_
                    clear hK K
                    refine wpAnyIn_ready (rs := [7]) (by kernel_rfl) (by simp) ?_
                    refine AllReadyIn.cons rfl (fun K hK => ?_) AllReadyIn.nil
                    go_simp
                    refine hK _ _ ?_
                    clear hK K
                    refine wpAnyIn_done (by kernel_rfl) ?_ _
                    refine HK2.out _ _ ?_
                    generalize w4.setCell ⟨w.heap.size + 1, 0, none⟩ (Value.slice (some ⟨g4, 0, none⟩) (cur.length + 1) c4) = w7 at P4 ⊢
                    clear cA fA hrun c11
                    gi_wp2
                    exact ⟨⟨k + 1, _, _, by simp, by omega, P4⟩, by simp [intOf]; omega⟩
                  · go_simp
                    refine ⟨trivial, ?_⟩
                    refine (callsIn_wide.2 (hcall.out _)).mono ?_
                    rintro e w1 ⟨rfl, rfl⟩
                    refine hK _ _ ?_
                    clear hK K
                    refine wpAnyIn_ready (rs := [0, 5]) (by kernel_rfl) (by simp) ?_
                    refine AllReadyIn.cons rfl (fun K hK => ?_) (AllReadyIn.cons rfl (fun K hK => ?_) AllReadyIn.nil)
                    · go_simp
                      refine hK _ _ ?_
                      clear hK K
                      refine wpAnyIn_ready (rs := [5]) (by kernel_rfl) (by simp) ?_
                      refine AllReadyIn.cons rfl (fun K hK => ?_) AllReadyIn.nil
                      go_simp
                      refine hK _ _ ?_
                      clear hK K
                      refine wpAnyIn_ready (rs := [6]) (by kernel_rfl) (by simp) ?_
                      refine AllReadyIn.cons rfl (fun K hK => ?_) AllReadyIn.nil
                      go_simp
                      refine hK _ _ ?_
                      clear hK K
                      refine wpAnyIn_ready (rs := [7]) (by kernel_rfl) (by simp) ?_
                      refine AllReadyIn.cons rfl (fun K hK => ?_) AllReadyIn.nil
                      go_simp
                      refine hK _ _ ?_
                      clear hK K
                      refine wpAnyIn_done (by kernel_rfl) ?_ _
                      refine HK2.out _ _ ?_
                      generalize w4.setCell ⟨w.heap.size + 1, 0, none⟩ (Value.slice (some ⟨g4, 0, none⟩) (cur.length + 1) c4) = w7 at P4 ⊢
                      clear cA fA hrun c11
                      gi_wp2
                      exact ⟨⟨k + 1, _, _, by simp, by omega, P4⟩, by simp [intOf]; omega⟩
                    · go_simp
                      refine hK _ _ ?_
                      clear hK K
                      refine wpAnyIn_ready (rs := [0]) (by kernel_rfl) (by simp) ?_
                      refine AllReadyIn.cons rfl (fun K hK => ?_) AllReadyIn.nil
                      go_simp
                      refine hK _ _ ?_
                      clear hK K
                      refine wpAnyIn_ready (rs := [6]) (by kernel_rfl) (by simp) ?_
                      refine AllReadyIn.cons rfl (fun K hK => ?_) AllReadyIn.nil
                      go_simp
                      refine hK _ _ ?_
                      clear hK K
                      refine wpAnyIn_ready (rs := [7]) (by kernel_rfl) (by simp) ?_
                      refine AllReadyIn.cons rfl (fun K hK => ?_) AllReadyIn.nil
                      go_simp
                      refine hK _ _ ?_
                      clear hK K
                      refine wpAnyIn_done (by kernel_rfl) ?_ _
                      refine HK2.out _ _ ?_
                      generalize w4.setCell ⟨w.heap.size + 1, 0, none⟩ (Value.slice (some ⟨g4, 0, none⟩) (cur.length + 1) c4) = w7 at P4 ⊢
                      clear cA fA hrun c11
                      gi_wp2
                      exact ⟨⟨k + 1, _, _, by simp, by omega, P4⟩, by simp [intOf]; omega⟩
          · obtain rfl : k = u.length := by omega
            have hfin : Hid (lay (gap acc ++ (u.take u.length).map smallB) ws = foldL s.data.toList) := by unfold Hid; rw [List.take_length]; exact hrel2.out
            have hfl : Hid ((gap acc ++ (u.take u.length).map smallB).length + spanW ws ≤ s.size + 1) := by unfold Hid; have h1 := hgl.out; have h2 := hln.out; simp; omega
            generalize gap acc ++ (u.take u.length).map smallB = cur at HR hfin hfl
            have hnI : ¬ (u.length : Int) < (u.length : Int) := by omega
            clear hG
            gi_wp2
            exact ⟨HR.out.loop, .inl ⟨rfl, ⟨cur, aP, cP, ((HR.out.put _).grown ⟨rfl, rfl, rfl, Nat.le_refl _, fun _ _ _ => rfl⟩), hfin.out, hfl.out⟩, (HR.out.put _).it _ rfl⟩⟩
      · rw [if_neg ha] at hg
        obtain ⟨g5, c5, w5, hrun, ho5, hg5⟩ := app_byte HI.out.row 32 (by have := hln.out; omega) HI.out.bel.size
        have a5 := HI.out.boxed _ hg5
        have cA := a5.cell
        have fA := a5.frozen
        have hG : Hid (FSt w s (r .busy none) (gap acc) (.slice (some ⟨g5, 0, none⟩) (gap acc).length c5) (some (.stringIter s p)) (w5.setCell ⟨w.heap.size + 1, 0, none⟩ (.slice (some ⟨g5, 0, none⟩) (acc.length + 1) c5))) := by
          have h := HI.out.append _ hg5 ho5
          unfold Hid
          have e : (gap acc).length = acc.length + 1 := by rw [hg.out]; simp
          rw [e, hg.out]
          exact h
        have hgl : Hid ((gap acc).length ≤ acc.length + 1) := by unfold Hid; rw [hg.out]; simp
        have e32 : ((32 : UInt8).toNat : Int) = 32 := rfl
        rw [e32] at hrun
        have hpos : (0 : Int) < (acc.length : Int) := by omega
        clear hg HI a5 ho5 hg5 e32
        gi_wp2
        generalize w5.setCell ⟨w.heap.size + 1, 0, none⟩ (.slice (some ⟨g5, 0, none⟩) (acc.length + 1) c5) = W6 at hG ⊢
        have hdb : decide ((0 : Nat) < acc.length) = true := decide_eq_true (by omega)
        rw [hdb]
        clear c1 f1 z1 cA fA hrun hpos ha hdb
        gi_loopw [20] (fun i wr => ∃ (k : Nat) (aP : Option Addr) (cP : Nat), i = .int .i64 k ∧ k ≤ u.length ∧ Hid (FSt w s (r .busy none) (gap acc ++ (u.take k).map smallB) (.slice aP (gap acc ++ (u.take k).map smallB).length cP) (some (.stringIter s p)) wr)) (fun i _ => u.length - (intOf i).toNat)
        case atStart => exact ⟨0, _, _, rfl, Nat.zero_le _, by simpa using hG⟩
        case round =>
          obtain ⟨k, aP, cP, rfl, hk, HR⟩ := hrel
          by_cases hlt : k < u.length
          · have hsz : k < (⟨u.toArray⟩ : ByteArray).size := by rw [hus.out]; exact hlt
            have hbyte := hub.out k hlt hsz
            have hcall := hide (fun X => small_any (u[k]'hlt) X)
            have hnext := hide (take_nextI u k hlt)
            have hbnd : Hid ((gap acc ++ (u.take k).map smallB).length + 1 ≤ 140737488355328) := by unfold Hid; have h1 := hgl.out; have h2 := hln.out; simp; omega
            have hltI : (k : Int) < (u.length : Int) := by omega
            have hnx : Hid (gap acc ++ (u.take (k + 1)).map smallB = (gap acc ++ (u.take k).map smallB) ++ [smallB (u[k]'hlt)]) := by unfold Hid; rw [hnext.out, List.append_assoc]
            generalize smallB (u[k]'hlt) = N at hcall hnx
            generalize hub2 : u[k]'hlt = ub at hcall hbyte
            clear hub2 hnext hG
            gi_wp2
            rename_i K1 hK1
            have HK2 := hide hK1
            clear hK1
            refine wpIn_region_any (by kernel_rfl) (wpAnyIn_inRound (F := Fence.wide) _ rfl (nd_of _ (by kernel_rfl)) _ _ _ _ ?_)
            change wpAnyIn _ _ _ _ _ _ _ _ _ (World.drew _)
            have P1 : Hid (FSt w s (r .busy none) (gap acc ++ (u.take k).map smallB) (.slice aP (gap acc ++ (u.take k).map smallB).length cP) (some (.stringIter s p)) (World.drew wr)) := HR.out.heap ⟨rfl, rfl, rfl, rfl⟩
            generalize hcur : gap acc ++ (u.take k).map smallB = cur at P1 hbnd hnx
            clear hcur HR
            generalize World.drew wr = wd at P1 ⊢
            obtain ⟨g4, c4, w4, hrun, ho4, hg4⟩ := app_byte P1.out.row N hbnd.out P1.out.bel.size
            have c11 := P1.out.box.cell
            have z11 := P1.out.box.lt
            have a2 := P1.out.boxed _ hg4
            have cA := a2.cell
            have fA := a2.frozen
            have P4 : Hid (FSt w s (r .busy none) (gap acc ++ (u.take (k + 1)).map smallB) (.slice (some ⟨g4, 0, none⟩) (gap acc ++ (u.take (k + 1)).map smallB).length c4) (some (.stringIter s p)) (w4.setCell ⟨w.heap.size + 1, 0, none⟩ (.slice (some ⟨g4, 0, none⟩) (cur.length + 1) c4))) := by
              have h := P1.out.append _ hg4 ho4
              unfold Hid
              rw [hnx.out]
              have e : (cur ++ [N]).length = cur.length + 1 := by simp
              rw [e]
              exact h
            clear a2 ho4 hg4 P1 hnx
            refine wpAnyIn_ready (rs := [0, 1, 2]) (by kernel_rfl) (by simp) ?_
            refine AllReadyIn.cons rfl (fun K hK => ?_) (AllReadyIn.cons rfl (fun K hK => ?_) (AllReadyIn.cons rfl (fun K hK => ?_) AllReadyIn.nil))
            · go_simp
              refine hK _ _ ?_
              clear hK K
              refine wpAnyIn_ready (rs := [1, 2]) (by kernel_rfl) (by simp) ?_
              refine AllReadyIn.cons rfl (fun K hK => ?_) (AllReadyIn.cons rfl (fun K hK => ?_) AllReadyIn.nil)
              · go_simp
                refine hK _ _ ?_
                clear hK K
                refine wpAnyIn_ready (rs := [2]) (by kernel_rfl) (by simp) ?_
                refine AllReadyIn.cons rfl (fun K hK => ?_) AllReadyIn.nil
                go_simp
                refine hK _ _ ?_
                clear hK K
                refine wpAnyIn_ready (rs := [3]) (by kernel_rfl) (by simp) ?_
                refine AllReadyIn.cons rfl (fun K hK => ?_) AllReadyIn.nil
                go_simp
                refine hK _ _ ?_
                clear hK K
                refine wpAnyIn_ready (rs := [4]) (by kernel_rfl) (by simp) ?_
                refine AllReadyIn.cons rfl (fun K hK => ?_) AllReadyIn.nil
                go_simp
                refine ⟨trivial, ?_⟩
                refine (callsIn_wide.2 (hcall.out _)).mono ?_
                rintro e w1 ⟨rfl, rfl⟩
                refine hK _ _ ?_
                clear hK K
                refine wpAnyIn_ready (rs := [5]) (by kernel_rfl) (by simp) ?_
                refine AllReadyIn.cons rfl (fun K hK => ?_) AllReadyIn.nil
                go_simp
                refine hK _ _ ?_
                clear hK K
                refine wpAnyIn_ready (rs := [6]) (by kernel_rfl) (by simp) ?_
                refine AllReadyIn.cons rfl (fun K hK => ?_) AllReadyIn.nil
                go_simp
                refine hK _ _ ?_
                clear hK K
                refine wpAnyIn_ready (rs := [7]) (by kernel_rfl) (by simp) ?_
                refine AllReadyIn.cons rfl (fun K hK => ?_) AllReadyIn.nil
                go_simp
                refine hK _ _ ?_
                clear hK K
                refine wpAnyIn_done (by kernel_rfl) ?_ _
                refine HK2.out _ _ ?_
                generalize w4.setCell ⟨w.heap.size + 1, 0, none⟩ (Value.slice (some ⟨g4, 0, none⟩) (cur.length + 1) c4) = w7 at P4 ⊢
                clear cA fA hrun c11
                gi_wp2
                exact ⟨⟨k + 1, _, _, by simp, by omega, P4⟩, by simp [intOf]; omega⟩
              · go_simp
                refine hK _ _ ?_
                clear hK K
                refine wpAnyIn_ready (rs := [1]) (by kernel_rfl) (by simp) ?_
                refine AllReadyIn.cons rfl (fun K hK => ?_) AllReadyIn.nil
                go_simp
                refine hK _ _ ?_
                clear hK K
                refine wpAnyIn_ready (rs := [3]) (by kernel_rfl) (by simp) ?_
                refine AllReadyIn.cons rfl (fun K hK => ?_) AllReadyIn.nil
                go_simp
                refine hK _ _ ?_
                clear hK K
                refine wpAnyIn_ready (rs := [4]) (by kernel_rfl) (by simp) ?_
                refine AllReadyIn.cons rfl (fun K hK => ?_) AllReadyIn.nil
                go_simp
                refine ⟨trivial, ?_⟩
                refine (callsIn_wide.2 (hcall.out _)).mono ?_
                rintro e w1 ⟨rfl, rfl⟩
                refine hK _ _ ?_
                clear hK K
                refine wpAnyIn_ready (rs := [5]) (by kernel_rfl) (by simp) ?_
                refine AllReadyIn.cons rfl (fun K hK => ?_) AllReadyIn.nil
                go_simp
                refine hK _ _ ?_
                clear hK K
                refine wpAnyIn_ready (rs := [6]) (by kernel_rfl) (by simp) ?_
                refine AllReadyIn.cons rfl (fun K hK => ?_) AllReadyIn.nil
                go_simp
                refine hK _ _ ?_
                clear hK K
                refine wpAnyIn_ready (rs := [7]) (by kernel_rfl) (by simp) ?_
                refine AllReadyIn.cons rfl (fun K hK => ?_) AllReadyIn.nil
                go_simp
                refine hK _ _ ?_
                clear hK K
                refine wpAnyIn_done (by kernel_rfl) ?_ _
                refine HK2.out _ _ ?_
                generalize w4.setCell ⟨w.heap.size + 1, 0, none⟩ (Value.slice (some ⟨g4, 0, none⟩) (cur.length + 1) c4) = w7 at P4 ⊢
                clear cA fA hrun c11
                gi_wp2
                exact ⟨⟨k + 1, _, _, by simp, by omega, P4⟩, by simp [intOf]; omega⟩
            · go_simp
              refine hK _ _ ?_
              clear hK K
              refine wpAnyIn_ready (rs := [0, 2]) (by kernel_rfl) (by simp) ?_
              refine AllReadyIn.cons rfl (fun K hK => ?_) (AllReadyIn.cons rfl (fun K hK => ?_) AllReadyIn.nil)
              · go_simp
                refine hK _ _ ?_
                clear hK K
                refine wpAnyIn_ready (rs := [2]) (by kernel_rfl) (by simp) ?_
                refine AllReadyIn.cons rfl (fun K hK => ?_) AllReadyIn.nil
                go_simp
                refine hK _ _ ?_
                clear hK K
                refine wpAnyIn_ready (rs := [3]) (by kernel_rfl) (by simp) ?_
                refine AllReadyIn.cons rfl (fun K hK => ?_) AllReadyIn.nil
                go_simp
                refine hK _ _ ?_
                clear hK K
                refine wpAnyIn_ready (rs := [4]) (by kernel_rfl) (by simp) ?_
                refine AllReadyIn.cons rfl (fun K hK => ?_) AllReadyIn.nil
                go_simp
                refine ⟨trivial, ?_⟩
                refine (callsIn_wide.2 (hcall.out _)).mono ?_
                rintro e w1 ⟨rfl, rfl⟩
                refine hK _ _ ?_
                clear hK K
                refine wpAnyIn_ready (rs := [5]) (by kernel_rfl) (by simp) ?_
                refine AllReadyIn.cons rfl (fun K hK => ?_) AllReadyIn.nil
                go_simp
                refine hK _ _ ?_
                clear hK K
                refine wpAnyIn_ready (rs := [6]) (by kernel_rfl) (by simp) ?_
                refine AllReadyIn.cons rfl (fun K hK => ?_) AllReadyIn.nil
                go_simp
                refine hK _ _ ?_
                clear hK K
                refine wpAnyIn_ready (rs := [7]) (by kernel_rfl) (by simp) ?_
                refine AllReadyIn.cons rfl (fun K hK => ?_) AllReadyIn.nil
                go_simp
                refine hK _ _ ?_
                clear hK K
                refine wpAnyIn_done (by kernel_rfl) ?_ _
                refine HK2.out _ _ ?_
                generalize w4.setCell ⟨w.heap.size + 1, 0, none⟩ (Value.slice (some ⟨g4, 0, none⟩) (cur.length + 1) c4) = w7 at P4 ⊢
                clear cA fA hrun c11
                gi_wp2
                exact ⟨⟨k + 1, _, _, by simp, by omega, P4⟩, by simp [intOf]; omega⟩
              · go_simp
                refine hK _ _ ?_
                clear hK K
                refine wpAnyIn_ready (rs := [0, 3]) (by kernel_rfl) (by simp) ?_
                refine AllReadyIn.cons rfl (fun K hK => ?_) (AllReadyIn.cons rfl (fun K hK => ?_) AllReadyIn.nil)
                · go_simp
                  refine hK _ _ ?_
                  clear hK K
                  refine wpAnyIn_ready (rs := [3]) (by kernel_rfl) (by simp) ?_
                  refine AllReadyIn.cons rfl (fun K hK => ?_) AllReadyIn.nil
                  go_simp
                  refine hK _ _ ?_
                  clear hK K
                  refine wpAnyIn_ready (rs := [4]) (by kernel_rfl) (by simp) ?_
                  refine AllReadyIn.cons rfl (fun K hK => ?_) AllReadyIn.nil
                  go_simp
                  refine ⟨trivial, ?_⟩
                  refine (callsIn_wide.2 (hcall.out _)).mono ?_
                  rintro e w1 ⟨rfl, rfl⟩
                  refine hK _ _ ?_
                  clear hK K
                  refine wpAnyIn_ready (rs := [5]) (by kernel_rfl) (by simp) ?_
                  refine AllReadyIn.cons rfl (fun K hK => ?_) AllReadyIn.nil
                  go_simp
                  refine hK _ _ ?_
                  clear hK K
                  refine wpAnyIn_ready (rs := [6]) (by kernel_rfl) (by simp) ?_
                  refine AllReadyIn.cons rfl (fun K hK => ?_) AllReadyIn.nil
                  go_simp
                  refine hK _ _ ?_
                  clear hK K
                  refine wpAnyIn_ready (rs := [7]) (by kernel_rfl) (by simp) ?_
                  refine AllReadyIn.cons rfl (fun K hK => ?_) AllReadyIn.nil
                  go_simp
                  refine hK _ _ ?_
                  clear hK K
                  refine wpAnyIn_done (by kernel_rfl) ?_ _
                  refine HK2.out _ _ ?_
                  generalize w4.setCell ⟨w.heap.size + 1, 0, none⟩ (Value.slice (some ⟨g4, 0, none⟩) (cur.length + 1) c4) = w7 at P4 ⊢
                  clear cA fA hrun c11
                  gi_wp2
                  exact ⟨⟨k + 1, _, _, by simp, by omega, P4⟩, by simp [intOf]; omega⟩
                · go_simp
                  refine hK _ _ ?_
                  clear hK K
                  refine wpAnyIn_ready (rs := [0, 4]) (by kernel_rfl) (by simp) ?_
                  refine AllReadyIn.cons rfl (fun K hK => ?_) (AllReadyIn.cons rfl (fun K hK => ?_) AllReadyIn.nil)
                  · go_simp
                    refine hK _ _ ?_
                    clear hK K
                    refine wpAnyIn_ready (rs := [4]) (by kernel_rfl) (by simp) ?_
                    refine AllReadyIn.cons rfl (fun K hK => ?_) AllReadyIn.nil
                    go_simp
                    refine ⟨trivial, ?_⟩
                    refine (callsIn_wide.2 (hcall.out _)).mono ?_
                    rintro e w1 ⟨rfl, rfl⟩
                    refine hK _ _ ?_
                    clear hK K
                    refine wpAnyIn_ready (rs := [5]) (by kernel_rfl) (by simp) ?_
                    refine AllReadyIn.cons rfl (fun K hK => ?_) AllReadyIn.nil
                    go_simp
                    refine hK _ _ ?_
                    clear hK K
                    refine wpAnyIn_ready (rs := [6]) (by kernel_rfl) (by simp) ?_
                    refine AllReadyIn.cons rfl (fun K hK => ?_) AllReadyIn.nil
                    go_simp
                    refine hK _ _ ?_
                    clear hK K
                    refine wpAnyIn_ready (rs := [7]) (by kernel_rfl) (by simp) ?_
                    refine AllReadyIn.cons rfl (fun K hK => ?_) AllReadyIn.nil
                    go_simp
                    refine hK _ _ ?_
                    clear hK K
                    refine wpAnyIn_done (by kernel_rfl) ?_ _
                    refine HK2.out _ _ ?_
                    generalize w4.setCell ⟨w.heap.size + 1, 0, none⟩ (Value.slice (some ⟨g4, 0, none⟩) (cur.length + 1) c4) = w7 at P4 ⊢
                    clear cA fA hrun c11
                    gi_wp2
                    exact ⟨⟨k + 1, _, _, by simp, by omega, P4⟩, by simp [intOf]; omega⟩
                  · go_simp
                    refine ⟨trivial, ?_⟩
                    refine (callsIn_wide.2 (hcall.out _)).mono ?_
                    rintro e w1 ⟨rfl, rfl⟩
                    refine hK _ _ ?_
                    clear hK K
                    refine wpAnyIn_ready (rs := [0, 5]) (by kernel_rfl) (by simp) ?_
                    refine AllReadyIn.cons rfl (fun K hK => ?_) (AllReadyIn.cons rfl (fun K hK => ?_) AllReadyIn.nil)
                    · go_simp
                      refine hK _ _ ?_
                      clear hK K
                      refine wpAnyIn_ready (rs := [5]) (by kernel_rfl) (by simp) ?_
                      refine AllReadyIn.cons rfl (fun K hK => ?_) AllReadyIn.nil
                      go_simp
                      refine hK _ _ ?_
                      clear hK K
                      refine wpAnyIn_ready (rs := [6]) (by kernel_rfl) (by simp) ?_
                      refine AllReadyIn.cons rfl (fun K hK => ?_) AllReadyIn.nil
                      go_simp
                      refine hK _ _ ?_
                      clear hK K
                      refine wpAnyIn_ready (rs := [7]) (by kernel_rfl) (by simp) ?_
                      refine AllReadyIn.cons rfl (fun K hK => ?_) AllReadyIn.nil
                      go_simp
                      refine hK _ _ ?_
                      clear hK K
                      refine wpAnyIn_done (by kernel_rfl) ?_ _
                      refine HK2.out _ _ ?_
                      generalize w4.setCell ⟨w.heap.size + 1, 0, none⟩ (Value.slice (some ⟨g4, 0, none⟩) (cur.length + 1) c4) = w7 at P4 ⊢
                      clear cA fA hrun c11
                      gi_wp2
                      exact ⟨⟨k + 1, _, _, by simp, by omega, P4⟩, by simp [intOf]; omega⟩
                    · go_simp
                      refine hK _ _ ?_
                      clear hK K
                      refine wpAnyIn_ready (rs := [0]) (by kernel_rfl) (by simp) ?_
                      refine AllReadyIn.cons rfl (fun K hK => ?_) AllReadyIn.nil
                      go_simp
                      refine hK _ _ ?_
                      clear hK K
                      refine wpAnyIn_ready (rs := [6]) (by kernel_rfl) (by simp) ?_
                      refine AllReadyIn.cons rfl (fun K hK => ?_) AllReadyIn.nil
                      go_simp
                      refine hK _ _ ?_
                      clear hK K
                      refine wpAnyIn_ready (rs := [7]) (by kernel_rfl) (by simp) ?_
                      refine AllReadyIn.cons rfl (fun K hK => ?_) AllReadyIn.nil
                      go_simp
                      refine hK _ _ ?_
                      clear hK K
                      refine wpAnyIn_done (by kernel_rfl) ?_ _
                      refine HK2.out _ _ ?_
                      generalize w4.setCell ⟨w.heap.size + 1, 0, none⟩ (Value.slice (some ⟨g4, 0, none⟩) (cur.length + 1) c4) = w7 at P4 ⊢
                      clear cA fA hrun c11
                      gi_wp2
                      exact ⟨⟨k + 1, _, _, by simp, by omega, P4⟩, by simp [intOf]; omega⟩
            · go_simp
              refine hK _ _ ?_
              clear hK K
              refine wpAnyIn_ready (rs := [0, 1]) (by kernel_rfl) (by simp) ?_
              refine AllReadyIn.cons rfl (fun K hK => ?_) (AllReadyIn.cons rfl (fun K hK => ?_) AllReadyIn.nil)
              · go_simp
                refine hK _ _ ?_
                clear hK K
                refine wpAnyIn_ready (rs := [1]) (by kernel_rfl) (by simp) ?_
                refine AllReadyIn.cons rfl (fun K hK => ?_) AllReadyIn.nil
                go_simp
                refine hK _ _ ?_
                clear hK K
                refine wpAnyIn_ready (rs := [3]) (by kernel_rfl) (by simp) ?_
                refine AllReadyIn.cons rfl (fun K hK => ?_) AllReadyIn.nil
                go_simp
                refine hK _ _ ?_
                clear hK K
                refine wpAnyIn_ready (rs := [4]) (by kernel_rfl) (by simp) ?_
                refine AllReadyIn.cons rfl (fun K hK => ?_) AllReadyIn.nil
                go_simp
                refine ⟨trivial, ?_⟩
                refine (callsIn_wide.2 (hcall.out _)).mono ?_
                rintro e w1 ⟨rfl, rfl⟩
                refine hK _ _ ?_
                clear hK K
                refine wpAnyIn_ready (rs := [5]) (by kernel_rfl) (by simp) ?_
                refine AllReadyIn.cons rfl (fun K hK => ?_) AllReadyIn.nil
                go_simp
                refine hK _ _ ?_
                clear hK K
                refine wpAnyIn_ready (rs := [6]) (by kernel_rfl) (by simp) ?_
                refine AllReadyIn.cons rfl (fun K hK => ?_) AllReadyIn.nil
                go_simp
                refine hK _ _ ?_
                clear hK K
                refine wpAnyIn_ready (rs := [7]) (by kernel_rfl) (by simp) ?_
                refine AllReadyIn.cons rfl (fun K hK => ?_) AllReadyIn.nil
                go_simp
                refine hK _ _ ?_
                clear hK K
                refine wpAnyIn_done (by kernel_rfl) ?_ _
                refine HK2.out _ _ ?_
                generalize w4.setCell ⟨w.heap.size + 1, 0, none⟩ (Value.slice (some ⟨g4, 0, none⟩) (cur.length + 1) c4) = w7 at P4 ⊢
                clear cA fA hrun c11
                gi_wp2
                exact ⟨⟨k + 1, _, _, by simp, by omega, P4⟩, by simp [intOf]; omega⟩
              · go_simp
                refine hK _ _ ?_
                clear hK K
                refine wpAnyIn_ready (rs := [0, 3]) (by kernel_rfl) (by simp) ?_
                refine AllReadyIn.cons rfl (fun K hK => ?_) (AllReadyIn.cons rfl (fun K hK => ?_) AllReadyIn.nil)
                · go_simp
                  refine hK _ _ ?_
                  clear hK K
                  refine wpAnyIn_ready (rs := [3]) (by kernel_rfl) (by simp) ?_
                  refine AllReadyIn.cons rfl (fun K hK => ?_) AllReadyIn.nil
                  go_simp
                  refine hK _ _ ?_
                  clear hK K
                  refine wpAnyIn_ready (rs := [4]) (by kernel_rfl) (by simp) ?_
                  refine AllReadyIn.cons rfl (fun K hK => ?_) AllReadyIn.nil
                  go_simp
                  refine ⟨trivial, ?_⟩
                  refine (callsIn_wide.2 (hcall.out _)).mono ?_
                  rintro e w1 ⟨rfl, rfl⟩
                  refine hK _ _ ?_
                  clear hK K
                  refine wpAnyIn_ready (rs := [5]) (by kernel_rfl) (by simp) ?_
                  refine AllReadyIn.cons rfl (fun K hK => ?_) AllReadyIn.nil
                  go_simp
                  refine hK _ _ ?_
                  clear hK K
                  refine wpAnyIn_ready (rs := [6]) (by kernel_rfl) (by simp) ?_
                  refine AllReadyIn.cons rfl (fun K hK => ?_) AllReadyIn.nil
                  go_simp
                  refine hK _ _ ?_
                  clear hK K
                  refine wpAnyIn_ready (rs := [7]) (by kernel_rfl) (by simp) ?_
                  refine AllReadyIn.cons rfl (fun K hK => ?_) AllReadyIn.nil
                  go_simp
                  refine hK _ _ ?_
                  clear hK K
                  refine wpAnyIn_done (by kernel_rfl) ?_ _
                  refine HK2.out _ _ ?_
                  generalize w4.setCell ⟨w.heap.size + 1, 0, none⟩ (Value.slice (some ⟨g4, 0, none⟩) (cur.length + 1) c4) = w7 at P4 ⊢
                  clear cA fA hrun c11
                  gi_wp2
                  exact ⟨⟨k + 1, _, _, by simp, by omega, P4⟩, by simp [intOf]; omega⟩
                · go_simp
                  refine hK _ _ ?_
                  clear hK K
                  refine wpAnyIn_ready (rs := [0, 4]) (by kernel_rfl) (by simp) ?_
                  refine AllReadyIn.cons rfl (fun K hK => ?_) (AllReadyIn.cons rfl (fun K hK => ?_) AllReadyIn.nil)
                  · go_simp
                    refine hK _ _ ?_
                    clear hK K
                    refine wpAnyIn_ready (rs := [4]) (by kernel_rfl) (by simp) ?_
                    refine AllReadyIn.cons rfl (fun K hK => ?_) AllReadyIn.nil
                    go_simp
                    refine ⟨trivial, ?_⟩
                    refine (callsIn_wide.2 (hcall.out _)).mono ?_
                    rintro e w1 ⟨rfl, rfl⟩
                    refine hK _ _ ?_
                    clear hK K
                    refine wpAnyIn_ready (rs := [5]) (by kernel_rfl) (by simp) ?_
                    refine AllReadyIn.cons rfl (fun K hK => ?_) AllReadyIn.nil
                    go_simp
                    refine hK _ _ ?_
                    clear hK K
                    refine wpAnyIn_ready (rs := [6]) (by kernel_rfl) (by simp) ?_
                    refine AllReadyIn.cons rfl (fun K hK => ?_) AllReadyIn.nil
                    go_simp
                    refine hK _ _ ?_
                    clear hK K
                    refine wpAnyIn_ready (rs := [7]) (by kernel_rfl) (by simp) ?_
                    refine AllReadyIn.cons rfl (fun K hK => ?_) AllReadyIn.nil
                    go_simp
                    refine hK _ _ ?_
                    clear hK K
                    refine wpAnyIn_done (by kernel_rfl) ?_ _
                    refine HK2.out _ _ ?_
                    generalize w4.setCell ⟨w.heap.size + 1, 0, none⟩ (Value.slice (some ⟨g4, 0, none⟩) (cur.length + 1) c4) = w7 at P4 ⊢
                    clear cA fA hrun c11
                    gi_wp2
                    exact ⟨⟨k + 1, _, _, by simp, by omega, P4⟩, by simp [intOf]; omega⟩
                  · go_simp
                    refine ⟨trivial, ?_⟩
                    refine (callsIn_wide.2 (hcall.out _)).mono ?_
                    rintro e w1 ⟨rfl, rfl⟩
                    refine hK _ _ ?_
                    clear hK K
                    refine wpAnyIn_ready (rs := [0, 5]) (by kernel_rfl) (by simp) ?_
                    refine AllReadyIn.cons rfl (fun K hK => ?_) (AllReadyIn.cons rfl (fun K hK => ?_) AllReadyIn.nil)
                    · go_simp
                      refine hK _ _ ?_
                      clear hK K
                      refine wpAnyIn_ready (rs := [5]) (by kernel_rfl) (by simp) ?_
                      refine AllReadyIn.cons rfl (fun K hK => ?_) AllReadyIn.nil
                      go_simp
                      refine hK _ _ ?_
                      clear hK K
                      refine wpAnyIn_ready (rs := [6]) (by kernel_rfl) (by simp) ?_
                      refine AllReadyIn.cons rfl (fun K hK => ?_) AllReadyIn.nil
                      go_simp
                      refine hK _ _ ?_
                      clear hK K
                      refine wpAnyIn_ready (rs := [7]) (by kernel_rfl) (by simp) ?_
                      refine AllReadyIn.cons rfl (fun K hK => ?_) AllReadyIn.nil
                      go_simp
                      refine hK _ _ ?_
                      clear hK K
                      refine wpAnyIn_done (by kernel_rfl) ?_ _
                      refine HK2.out _ _ ?_
                      generalize w4.setCell ⟨w.heap.size + 1, 0, none⟩ (Value.slice (some ⟨g4, 0, none⟩) (cur.length + 1) c4) = w7 at P4 ⊢
                      clear cA fA hrun c11
                      gi_wp2
                      exact ⟨⟨k + 1, _, _, by simp, by omega, P4⟩, by simp [intOf]; omega⟩
                    · go_simp
                      refine hK _ _ ?_
                      clear hK K
                      refine wpAnyIn_ready (rs := [0]) (by kernel_rfl) (by simp) ?_
                      refine AllReadyIn.cons rfl (fun K hK => ?_) AllReadyIn.nil
                      go_simp
                      refine hK _ _ ?_
                      clear hK K
                      refine wpAnyIn_ready (rs := [6]) (by kernel_rfl) (by simp) ?_
                      refine AllReadyIn.cons rfl (fun K hK => ?_) AllReadyIn.nil
                      go_simp
                      refine hK _ _ ?_
                      clear hK K
                      refine wpAnyIn_ready (rs := [7]) (by kernel_rfl) (by simp) ?_
                      refine AllReadyIn.cons rfl (fun K hK => ?_) AllReadyIn.nil
                      go_simp
                      refine hK _ _ ?_
                      clear hK K
                      refine wpAnyIn_done (by kernel_rfl) ?_ _
                      refine HK2.out _ _ ?_
                      generalize w4.setCell ⟨w.heap.size + 1, 0, none⟩ (Value.slice (some ⟨g4, 0, none⟩) (cur.length + 1) c4) = w7 at P4 ⊢
                      clear cA fA hrun c11
                      gi_wp2
                      exact ⟨⟨k + 1, _, _, by simp, by omega, P4⟩, by simp [intOf]; omega⟩
          · obtain rfl : k = u.length := by omega
            have hfin : Hid (lay (gap acc ++ (u.take u.length).map smallB) ws = foldL s.data.toList) := by unfold Hid; rw [List.take_length]; exact hrel2.out
            have hfl : Hid ((gap acc ++ (u.take u.length).map smallB).length + spanW ws ≤ s.size + 1) := by unfold Hid; have h1 := hgl.out; have h2 := hln.out; simp; omega
            generalize gap acc ++ (u.take u.length).map smallB = cur at HR hfin hfl
            have hnI : ¬ (u.length : Int) < (u.length : Int) := by omega
            clear hG
            gi_wp2
            exact ⟨HR.out.loop, .inl ⟨rfl, ⟨cur, aP, cP, ((HR.out.put _).grown ⟨rfl, rfl, rfl, Nat.le_refl _, fun _ _ _ => rfl⟩), hfin.out, hfl.out⟩, (HR.out.put _).it _ rfl⟩⟩
  · rintro e W' ⟨⟨v, rfl⟩, ⟨acc, aO, cO, hI, hd, _⟩ | hF⟩
    · have hl := hI.loop
      rw [← hrec] at hl
      refine range_done hl ?_
      rw [hrec]
      exact HK _ acc aO cO _ _ (hI.put _) hd
    · exact hF.elim

end Go.Proofs.YtklchpdpooikdaaGreatDoor
