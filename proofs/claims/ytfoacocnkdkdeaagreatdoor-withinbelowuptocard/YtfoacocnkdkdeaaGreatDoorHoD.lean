/-
  host.DNS: is a text a host's name?
-/
import Derived.Test.YtfoacocnkdkdeaaGreatDoorHoL
import Derived.Test.YtfoacocnkdkdeaaGreatDoorHoS
namespace Go.Proofs.YtfoacocnkdkdeaaGreatDoor
open Go.RowKit Go.Shelf Go.IntWalk
attribute [local go_sem] Oper.semAt_some

set_option maxRecDepth 100000 in
theorem dns_leave (w W : World) (tmps : Array Value) (R : Bool) (D : Nat) (bx : List (Nat × TypeId × Value)) (h : BSt w bx [D] W) (h0 : bx[0]? = some (w.heap.size, 4, .bool R)) (ht : tmps[2]? = some (.pointer (some ⟨w.heap.size, 0, none⟩))) :
    LeavesInM Fence.wide 6 Tryz.prog Tryz.f25 tmps (fun e w' => e = .returned (.bool R) ∧ Below w.heap.size w w') [{ target := .collected D, args := #[] }] .returning W := by
  have h1 := (h.dfr D (by simp)).2
  have h2 := h.take (by simp)
  have c1 := (h2.get 0 h0).cell
  refine ⟨by simp, .inl ⟨_, _, rfl, run_takeDeferred h1, ?_⟩⟩
  exact ⟨.bool R, by simp [results, Tryz.results25, go_sem, ht, c1, Array.getD_eq_getD_getElem?], rfl, h2.bel⟩

set_option maxRecDepth 100000 in
set_option maxHeartbeats 4000000 in
theorem dns_in (s : List UInt8) (hs : s.length ≤ 1048576) (m : Int) (w : World) (hm : ML w m) :
    CallsIn Fence.wide 6 Tryz.prog 25 #[.string (tx s)] w fun e w' => e = .returned (.bool (dnsL s)) ∧ Below w.heap.size w w' := by
  refine callsIn_of_wp_marks Tryz.func25 rfl trivial ?_ rfl
  simp only [Tryz.ntmps25, List.size_toArray, List.length_cons, List.length_nil, Nat.reduceAdd, Nat.reduceSub, Array.replicate_succ, Array.replicate_zero, List.push_toArray, List.append_toArray, List.nil_append, List.cons_append]
  have hsz := tx_size s
  by_cases hlen : s.length ≤ 253
  · have hgt : ¬ (253 : Int) < ((tx s).size : Int) := by rw [hsz]; omega
    gi_wp2_with (refine ⟨trivial, ?_⟩; gi_at_call 53; refine (labels_in _ _ _).mono ?_; rintro e w' ⟨rfl, rfl⟩)
    rename_i K hK
    have b0 := (((BSt.start w).new 4 (.bool false)).new 9 (.string ⟨#[]⟩)).new 9 (.string (tx s))
    simp only [World.size_alloc, List.nil_append, List.cons_append] at b0
    generalize ((w.alloc (.cells #[.bool false] 4)).alloc (.cells #[.string ⟨#[]⟩] 9)).alloc (.cells #[.string (tx s)] 9) = W0 at b0 ⊢
    have HR : Hid (dnsG [] (labs s) = dnsL s) := by unfold Hid dnsL; rw [decide_eq_true hlen, Bool.true_and]
    obtain ⟨R, hRd⟩ : ∃ R, dnsL s = R := ⟨_, rfl⟩
    rw [hRd] at HR
    replace hRd := hide hRd
    generalize hA : Act.mk _ _ = A
    refine range_enter rfl (by decide) (gf := 84) (lb := #[.pointer (some ⟨w.heap.size + 1 + 1, 0, none⟩)]) (by subst hA; rfl) trivial (enters_of Tryz.func84 (by kernel_rfl) rfl) ?_
    intro fn hfn
    generalize hrec : recOf fn _ _ _ _ _ = r
    have i0 := LSt.enter b0 (r .ready none)
    have hDl : W0.heap.size + 1 ≠ W0.heap.size := by omega
    generalize hW1 : (W0.alloc (.deferred (some []))).alloc (.loop (r .ready none)) = W1 at i0 ⊢
    generalize W0.heap.size + 1 = l at i0 hDl ⊢
    generalize W0.heap.size = D at i0 hDl hrec ⊢
    clear hW1
    refine (labels1_in 5 (by decide) l (w.heap.size + 1 + 1) s hs m (fun ws W => ∃ last : List UInt8, last.length ≤ s.length ∧ LSt w [(w.heap.size, 4, .bool false), (w.heap.size + 1, 9, .string (tx last)), (w.heap.size + 1 + 1, 9, .string (tx s))] [D] l (r .ready none) W ∧ dnsG last ws = R)
      (fun W => ∃ last : List UInt8, LSt w [(w.heap.size, 4, .bool false), (w.heap.size + 1, 9, .string (tx last)), (w.heap.size + 1 + 1, 9, .string (tx s))] [D] l (r (.done) (some .ret)) W ∧ R = false) W1 ?_ (i0.st.get 2 rfl).cell ?_ ?_ ⟨[], Nat.zero_le _, i0, HR.out⟩).mono ?_
    · rintro ws W2 ⟨last, _, hst, _⟩
      exact hm.below hst.st.bel
    · rintro ws W2 W3 ⟨last, hl, hst, hr⟩ hb
      exact ⟨last, hl, hst.below hb, hr⟩
    · rintro u ws W2 ⟨last, hl, hst, hr⟩ hu
      have hlp := hst.loop
      rw [← hrec] at hlp
      subst hA
      refine range_round (a₁ := ?A1) hfn hlp rfl ?_ ?_
      rotate_left
      · intro K hK
        gi_wp2
        exact hK
      · rw [hrec]
        have HI := hide (hst.put (r .busy none))
        generalize W2.putObj l (.loop (r .busy none)) = W3 at HI ⊢
        have hC := hide (fun W => isLabel_any (tx u) (by rw [tx_size]; omega) W)
        rw [tx_list] at hC
        have hG : Hid (labL u = true → dnsG u ws = R) := fun e => by rw [dnsG, e, Bool.true_and] at hr; exact hr
        have hG2 : Hid (labL u = false → R = false) := fun e => by rw [dnsG, e, Bool.false_and] at hr; exact hr.symm
        clear hr hst hlp hrec i0 hK b0 HR
        generalize labL u = q at hC hG hG2
        cases q with
        | true =>
          gi_wp2_with (refine ⟨trivial, ?_⟩; gi_at_call 54; refine (CallsIn.inRound l (callsIn_wide.2 (hC.out _))).mono ?_; rintro e w2 ⟨rfl, B2⟩; have HI2 := hide (HI.out.below B2); have cl := (HI2.out.st.get 1 rfl).cell; have fl := (HI2.out.st.get 1 rfl).frozen)
          have HI3 := HI2.out.set 1 rfl (.string (tx u))
          exact ⟨HI3.loop, .inl ⟨rfl, u, hu, HI3.put _, hG.out trivial⟩⟩
        | false =>
          gi_wp2_with (refine ⟨trivial, ?_⟩; gi_at_call 54; refine (CallsIn.inRound l (callsIn_wide.2 (hC.out _))).mono ?_; rintro e w2 ⟨rfl, B2⟩; have HI2 := hide (HI.out.below B2); have cl := (HI2.out.st.get 0 rfl).cell; have fl := (HI2.out.st.get 0 rfl).frozen)
          have HI3 := HI2.out.set 0 rfl (.bool false)
          exact ⟨HI3.loop, .inr ⟨rfl, last, HI3.put _, hG2.out trivial⟩⟩
    · rintro e W' ⟨⟨v, rfl⟩, ⟨last, hl, hst, hr⟩ | ⟨last, hst, hr⟩⟩
      · have hlp := hst.loop
        rw [← hrec] at hlp
        refine range_done hlp ?_
        rw [hrec]
        have HI := hide (hst.put (r .exhausted none))
        generalize W'.putObj l (.loop (r .exhausted none)) = W3 at HI ⊢
        subst hA
        refine hK _ _ ?_
        have cl := (HI.out.st.get 1 rfl).cell
        have hC := hide (fun W => isNumber_any (tx last) (by rw [tx_size]; omega) W)
        rw [tx_list] at hC
        have hr2 : Hid ((!numL last) = R) := hr
        clear hr hst hlp hrec i0 hK b0 HR
        have c0 := (HI.out.st.get 0 rfl).cell
        have f0 := (HI.out.st.get 0 rfl).frozen
        generalize numL last = q at hC hr2
        gi_wp2_with (refine ⟨trivial, ?_⟩; gi_at_call 55; refine (callsIn_wide.2 (hC.out _)).mono ?_; rintro e w2 ⟨rfl, rfl⟩)
        rw [hRd.out, ← hr2.out]
        exact dns_leave w _ _ _ D _ (HI.out.st.set 0 rfl _) rfl rfl
      · have hlp := hst.loop
        rw [← hrec] at hlp
        refine range_left hlp ?_
        rw [hrec]
        have HI := hide (hst.put (r .exhausted (some .ret)))
        generalize W'.putObj l (.loop (r .exhausted (some .ret))) = W3 at HI ⊢
        subst hA
        clear hst hlp hrec i0 hK b0 HR
        gi_wp2
        rw [hRd.out, hr]
        exact dns_leave w _ _ _ D _ HI.out.st rfl rfl
  · have hgt : (253 : Int) < ((tx s).size : Int) := by rw [hsz]; omega
    have hF : Hid (dnsL s = false) := by unfold Hid dnsL; rw [decide_eq_false hlen]; rfl
    have b0 := hide ((BSt.start w).new 4 (.bool false))
    gi_wp2
    have c1 := (b0.out.get 0 rfl).cell
    rw [hF.out]
    refine ⟨.bool false, by simp [results, Tryz.results25, go_sem, c1, Array.getD_eq_getD_getElem?], rfl, b0.out.bel⟩

theorem dns_any (s : List UInt8) (hs : s.length ≤ 1048576) (m : Int) (w : World) (hm : ML w m) :
    Calls Tryz.prog 25 #[.string (tx s)] w fun e w' => e = .returned (.bool (dnsL s)) ∧ Below w.heap.size w w' := callsIn_wide.1 (dns_in s hs m w hm)

end Go.Proofs.YtfoacocnkdkdeaaGreatDoor
