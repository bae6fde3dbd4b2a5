/-
  The memory of a function that ranges over a function lies with BoxSt; host's parts import it here.
  host.DNS: is a text a host's name?
  host.Wild, host.Email, host.IP: is a text a wild name, a mail address, a network address?
-/
import Derived.Test.YtklchpdpooikdaaGreatDoorXHoB
import Derived.Test.YtklchpdpooikdaaGreatDoorXHoLToBoxSt
namespace Go.Proofs.YtklchpdpooikdaaGreatDoor
end Go.Proofs.YtklchpdpooikdaaGreatDoor

namespace Go.Proofs.YtklchpdpooikdaaGreatDoor
open Go.RowKit Go.Shelf Go.IntWalk
attribute [local go_sem] Oper.semAt_some

set_option maxRecDepth 100000 in
theorem dns_leave (w W : World) (tmps : Array Value) (R : Bool) (D : Nat) (bx : List (Nat × TypeId × Value)) (h : BSt w bx [D] W) (h0 : bx[0]? = some (w.heap.size, 4, .bool R)) (ht : tmps[2]? = some (.pointer (some ⟨w.heap.size, 0, none⟩))) :
    LeavesInM Fence.wide 6 Tryz.prog Tryz.f43 tmps (fun e w' => e = .returned (.bool R) ∧ Below w.heap.size w w') [{ target := .collected D, args := #[] }] .returning W := by
  have h1 := (h.dfr D (by simp)).2
  have h2 := h.take (by simp)
  have c1 := (h2.get 0 h0).cell
  refine ⟨by simp, .inl ⟨_, _, rfl, run_takeDeferred h1, ?_⟩⟩
  exact ⟨.bool R, by simp [results, Tryz.results43, go_sem, ht, c1, Array.getD_eq_getD_getElem?], rfl, h2.bel⟩

set_option maxRecDepth 100000 in
set_option maxHeartbeats 4000000 in
theorem dns_in (s : List UInt8) (hs : s.length ≤ 1048576) (m : Int) (w : World) (hm : ML w m) :
    CallsIn Fence.wide 6 Tryz.prog 43 #[.string (tx s)] w fun e w' => e = .returned (.bool (dnsL s)) ∧ Below w.heap.size w w' := by
  refine callsIn_of_wp_marks Tryz.func43 rfl trivial ?_ rfl
  simp only [Tryz.ntmps43, List.size_toArray, List.length_cons, List.length_nil, Nat.reduceAdd, Nat.reduceSub, Array.replicate_succ, Array.replicate_zero, List.push_toArray, List.append_toArray, List.nil_append, List.cons_append]
  have hsz := tx_size s
  by_cases hlen : s.length ≤ 253
  · have hgt : ¬ (253 : Int) < ((tx s).size : Int) := by rw [hsz]; omega
    gi_wp2_with (refine ⟨trivial, ?_⟩; gi_at_call 64; refine (labels_in _ _ _).mono ?_; rintro e w' ⟨rfl, rfl⟩)
    rename_i K hK
    have b0 := (((BSt.start w).new 4 (.bool false)).new 9 (.string ⟨#[]⟩)).new 9 (.string (tx s))
    simp only [World.size_alloc, List.nil_append, List.cons_append] at b0
    generalize ((w.alloc (.cells #[.bool false] 4)).alloc (.cells #[.string ⟨#[]⟩] 9)).alloc (.cells #[.string (tx s)] 9) = W0 at b0 ⊢
    have HR : Hid (dnsG [] (labs s) = dnsL s) := by unfold Hid dnsL; rw [decide_eq_true hlen, Bool.true_and]
    obtain ⟨R, hRd⟩ : ∃ R, dnsL s = R := ⟨_, rfl⟩
    rw [hRd] at HR
    replace hRd := hide hRd
    generalize hA : Act.mk _ _ = A
    refine range_enter rfl (by decide) (gf := 96) (lb := #[.pointer (some ⟨w.heap.size + 1 + 1, 0, none⟩)]) (by subst hA; rfl) trivial (enters_of Tryz.func96 (by kernel_rfl) rfl) ?_
    intro fn hfn
    generalize hrec : recOf fn _ _ _ _ _ = r
    have i0 := LSt.enter b0 (r .ready none)
    have hDl : W0.heap.size + 1 ≠ W0.heap.size := by omega
    generalize hW1 : (W0.alloc (.deferred (some []))).alloc (.loop (r .ready none)) = W1 at i0 ⊢
    generalize W0.heap.size + 1 = l at i0 hDl ⊢
    generalize W0.heap.size = D at i0 hDl hrec ⊢
    clear hW1
    refine (labels1_in 5 (by decide) l (w.heap.size + 1 + 1) s hs m (fun ws W => ∃ last : List UInt8, last.length ≤ s.length ∧ LSt w [(w.heap.size, 4, .bool false), (w.heap.size + 1, 9, .string (tx last)), (w.heap.size + 1 + 1, 9, .string (tx s))] [D] l (r .ready none) W ∧ dnsG last ws = R)
      (fun W => ∃ last : List UInt8, LSt w [(w.heap.size, 4, .bool false), (w.heap.size + 1, 9, .string (tx last)), (w.heap.size + 1 + 1, 9, .string (tx s))] [D] l (r (.done) (some .ret)) W ∧ R = false) W1 ?_ (i0.st.get 2 rfl).cell ?_ ?_ ⟨[], Nat.zero_le _, i0, HR.out⟩).mono ?_
    · rintro ws W2 ⟨last, _, hst, _⟩
      exact hm.below hst.st.bel
    · rintro ws W2 W3 ⟨last, hl, hst, hr⟩ hb
      exact ⟨last, hl, hst.below hb, hr⟩
    · rintro u ws W2 ⟨last, hl, hst, hr⟩ hu
      have hlp := hst.loop
      rw [← hrec] at hlp
      subst hA
      refine range_round (a₁ := ?A1) hfn hlp rfl ?_ ?_
      rotate_left
      · intro K hK
        gi_wp2
        exact hK
      · rw [hrec]
        have HI := hide (hst.put (r .busy none))
        generalize W2.putObj l (.loop (r .busy none)) = W3 at HI ⊢
        have hC := hide (fun W => isLabel_any (tx u) (by rw [tx_size]; omega) W)
        rw [tx_list] at hC
        have hG : Hid (labL u = true → dnsG u ws = R) := fun e => by rw [dnsG, e, Bool.true_and] at hr; exact hr
        have hG2 : Hid (labL u = false → R = false) := fun e => by rw [dnsG, e, Bool.false_and] at hr; exact hr.symm
        clear hr hst hlp hrec i0 hK b0 HR
        generalize labL u = q at hC hG hG2
        cases q with
        | true =>
          gi_wp2_with (refine ⟨trivial, ?_⟩; gi_at_call 65; refine (CallsIn.inRound l (callsIn_wide.2 (hC.out _))).mono ?_; rintro e w2 ⟨rfl, B2⟩; have HI2 := hide (HI.out.below B2); have cl := (HI2.out.st.get 1 rfl).cell; have fl := (HI2.out.st.get 1 rfl).frozen)
          have HI3 := HI2.out.set 1 rfl (.string (tx u))
          exact ⟨HI3.loop, .inl ⟨rfl, u, hu, HI3.put _, hG.out trivial⟩⟩
        | false =>
          gi_wp2_with (refine ⟨trivial, ?_⟩; gi_at_call 65; refine (CallsIn.inRound l (callsIn_wide.2 (hC.out _))).mono ?_; rintro e w2 ⟨rfl, B2⟩; have HI2 := hide (HI.out.below B2); have cl := (HI2.out.st.get 0 rfl).cell; have fl := (HI2.out.st.get 0 rfl).frozen)
          have HI3 := HI2.out.set 0 rfl (.bool false)
          exact ⟨HI3.loop, .inr ⟨rfl, last, HI3.put _, hG2.out trivial⟩⟩
    · rintro e W' ⟨⟨v, rfl⟩, ⟨last, hl, hst, hr⟩ | ⟨last, hst, hr⟩⟩
      · have hlp := hst.loop
        rw [← hrec] at hlp
        refine range_done hlp ?_
        rw [hrec]
        have HI := hide (hst.put (r .exhausted none))
        generalize W'.putObj l (.loop (r .exhausted none)) = W3 at HI ⊢
        subst hA
        refine hK _ _ ?_
        have cl := (HI.out.st.get 1 rfl).cell
        have hC := hide (fun W => isNumber_any (tx last) (by rw [tx_size]; omega) W)
        rw [tx_list] at hC
        have hr2 : Hid ((!numL last) = R) := hr
        clear hr hst hlp hrec i0 hK b0 HR
        have c0 := (HI.out.st.get 0 rfl).cell
        have f0 := (HI.out.st.get 0 rfl).frozen
        generalize numL last = q at hC hr2
        gi_wp2_with (refine ⟨trivial, ?_⟩; gi_at_call 66; refine (callsIn_wide.2 (hC.out _)).mono ?_; rintro e w2 ⟨rfl, rfl⟩)
        rw [hRd.out, ← hr2.out]
        exact dns_leave w _ _ _ D _ (HI.out.st.set 0 rfl _) rfl rfl
      · have hlp := hst.loop
        rw [← hrec] at hlp
        refine range_left hlp ?_
        rw [hrec]
        have HI := hide (hst.put (r .exhausted (some .ret)))
        generalize W'.putObj l (.loop (r .exhausted (some .ret))) = W3 at HI ⊢
        subst hA
        clear hst hlp hrec i0 hK b0 HR
        gi_wp2
        rw [hRd.out, hr]
        exact dns_leave w _ _ _ D _ HI.out.st rfl rfl
  · have hgt : (253 : Int) < ((tx s).size : Int) := by rw [hsz]; omega
    have hF : Hid (dnsL s = false) := by unfold Hid dnsL; rw [decide_eq_false hlen]; rfl
    have b0 := hide ((BSt.start w).new 4 (.bool false))
    gi_wp2
    have c1 := (b0.out.get 0 rfl).cell
    rw [hF.out]
    refine ⟨.bool false, by simp [results, Tryz.results43, go_sem, c1, Array.getD_eq_getD_getElem?], rfl, b0.out.bel⟩

theorem dns_any (s : List UInt8) (hs : s.length ≤ 1048576) (m : Int) (w : World) (hm : ML w m) :
    Calls Tryz.prog 43 #[.string (tx s)] w fun e w' => e = .returned (.bool (dnsL s)) ∧ Below w.heap.size w w' := callsIn_wide.1 (dns_in s hs m w hm)

end Go.Proofs.YtklchpdpooikdaaGreatDoor

namespace Go.Proofs.YtklchpdpooikdaaGreatDoor
open Go.RowKit Go.Shelf Go.IntWalk
attribute [local go_sem] Oper.semAt_some

theorem contains_byte (c : UInt8) : ∀ l : List UInt8, decide (0 ≤ Lib.indexByte l c) = l.contains c
  | [] => by simp [Lib.indexByte]
  | b :: l => by
    have ih := contains_byte c l
    have hge := Lib.indexByte_ge l c
    rw [Lib.indexByte, List.contains_cons, ← ih]
    by_cases h : b = c
    · subst h; simp
    · have h1 : (b == c) = false := by simpa using h
      have h2 : (c == b) = false := by simpa using fun e => h e.symm
      rw [h1, h2]
      simp only [Bool.false_eq_true, if_false, Bool.false_or]
      by_cases h0 : 0 ≤ Lib.indexByte l c
      · rw [if_neg (by simp; omega), decide_eq_true h0, decide_eq_true (by omega)]
      · rw [if_pos (by simp; omega), decide_eq_false h0, decide_eq_false (by omega)]

set_option maxRecDepth 100000 in
set_option maxHeartbeats 1000000 in
theorem ip_any (s : List UInt8) (w : World) : Calls Tryz.prog 51 #[.string (tx s)] w fun e w' => e = .returned (.bool (ipL s)) ∧ w' = w := by
  have hs := tx_size s
  have hP : Hid (ipL s = (decide (s.length = 4) || decide (s.length = 16))) := rfl
  generalize ipL s = R at hP ⊢
  by_cases h4 : s.length = 4
  · have h4' : (((tx s).size : Int) == 4) = true := by simp; omega
    have HP : Hid (R = true) := by unfold Hid; rw [hP.out, decide_eq_true h4]; rfl
    clear hs h4
    go_enter Tryz.func51, Tryz.ntmps51
    go_wp2
    go_ret
    exact ⟨by rw [HP.out]; rfl, rfl⟩
  have h4' : (((tx s).size : Int) == 4) = false := by simp; omega
  by_cases h16 : s.length = 16
  · have h16' : (((tx s).size : Int) == 16) = true := by simp; omega
    have HP : Hid (R = true) := by unfold Hid; rw [hP.out, decide_eq_true h16, Bool.or_true]
    clear hs h4 h16
    go_enter Tryz.func51, Tryz.ntmps51
    go_wp2
    go_ret
    exact ⟨by rw [HP.out]; rfl, rfl⟩
  · have h16' : (((tx s).size : Int) == 16) = false := by simp; omega
    have HP : Hid (R = false) := by unfold Hid; rw [hP.out, decide_eq_false h4, decide_eq_false h16]; rfl
    clear hs h4 h16
    go_enter Tryz.func51, Tryz.ntmps51
    go_wp2
    go_ret
    exact ⟨by rw [HP.out]; rfl, rfl⟩

/-- A wild name: *. behind it a host's name with a dot. -/
theorem wildL_prefix (s : List UInt8) : wildL s = (Lib.hasPrefix s [42, 46] && (decide (s.length ≤ 253) && (dnsL (Lib.trimPrefix s [42, 46]) && (Lib.trimPrefix s [42, 46]).contains 46))) := by
  unfold Lib.trimPrefix Lib.hasPrefix
  match s with
  | [] => rfl
  | [a] => simp [wildL, List.isPrefixOf]
  | a :: b :: r =>
    simp only [wildL, List.isPrefixOf, List.length_cons, Bool.and_true]
    by_cases h : a = 42 ∧ b = 46
    · obtain ⟨rfl, rfl⟩ := h
      simp
    · rw [decide_eq_false h]
      have : ((42 : UInt8) == a && (46 : UInt8) == b) = false := by
        rw [Bool.and_eq_false_iff]
        by_cases ha : a = 42
        · right; simpa using fun e => h ⟨ha, e.symm⟩
        · left; simpa using fun e => ha e.symm
      rw [this]
      rfl

set_option maxRecDepth 100000 in
set_option maxHeartbeats 1000000 in
theorem wild_any (s : List UInt8) (hs : s.length ≤ 1048576) (m : Int) (w : World) (hm : ML w m) :
    Calls Tryz.prog 49 #[.string (tx s)] w fun e w' => e = .returned (.bool (wildL s)) ∧ Below w.heap.size w w' := by
  have hz := tx_size s
  have hC := hide (fun W => Tryz.strings_CutPrefix (tx s) ⟨#[42, 46]⟩ W)
  have e1 : (⟨#[42, 46]⟩ : ByteArray).data.toList = [42, 46] := rfl
  rw [e1, tx_list] at hC
  have hrl : (Lib.trimPrefix s [42, 46]).length ≤ s.length := by unfold Lib.trimPrefix; split <;> simp
  have hD := hide (dns_any (Lib.trimPrefix s [42, 46]) (by omega) m w hm)
  have hO := hide (fun W => Tryz.strings_Contains_one (tx (Lib.trimPrefix s [42, 46])) 46 W)
  rw [tx_list, contains_byte] at hO
  have hP := hide (wildL_prefix s)
  generalize Lib.trimPrefix s [42, 46] = t at hC hD hO hP
  generalize Lib.hasPrefix s [42, 46] = pf at hC hP
  generalize dnsL t = d at hD hP
  generalize t.contains 46 = o at hO hP
  generalize wildL s = R at hP ⊢
  clear hrl e1
  cases pf with
  | false =>
    go_enter Tryz.func49, Tryz.ntmps49
    go_wp2_with (first | (go_at_call 84; refine (hC.out _).mono ?_; rintro e w1 ⟨rfl, hw1⟩; subst hw1) | (go_at_call 43; refine (hD.out).mono ?_; rintro e w2 ⟨rfl, B2⟩) | (go_at_call 85; refine (hO.out _).mono ?_; rintro e w3 ⟨rfl, hw3⟩; subst hw3))
    go_ret
    exact ⟨by rw [hP.out]; rfl, Below.refl _ _⟩
  | true =>
    by_cases hle : s.length ≤ 253
    · have hleI : ((tx s).size : Int) ≤ 253 := by omega
      have hP2 : Hid (R = (d && o)) := by unfold Hid; rw [hP.out, decide_eq_true hle]; rfl
      clear hz hle hP
      cases d with
      | false =>
        go_enter Tryz.func49, Tryz.ntmps49
        go_wp2_with (first | (go_at_call 84; refine (hC.out _).mono ?_; rintro e w1 ⟨rfl, hw1⟩; subst hw1) | (go_at_call 43; refine (hD.out).mono ?_; rintro e w2 ⟨rfl, B2⟩) | (go_at_call 85; refine (hO.out _).mono ?_; rintro e w3 ⟨rfl, hw3⟩; subst hw3))
        go_ret
        exact ⟨by rw [hP2.out]; rfl, B2⟩
      | true =>
        go_enter Tryz.func49, Tryz.ntmps49
        go_wp2_with (first | (go_at_call 84; refine (hC.out _).mono ?_; rintro e w1 ⟨rfl, hw1⟩; subst hw1) | (go_at_call 43; refine (hD.out).mono ?_; rintro e w2 ⟨rfl, B2⟩) | (go_at_call 85; refine (hO.out _).mono ?_; rintro e w3 ⟨rfl, hw3⟩; subst hw3))
        go_ret
        exact ⟨by rw [hP2.out]; rfl, B2⟩
    · have hleI : ¬ ((tx s).size : Int) ≤ 253 := by omega
      have hP2 : Hid (R = false) := by unfold Hid; rw [hP.out, decide_eq_false hle]; rfl
      clear hz hle hP
      go_enter Tryz.func49, Tryz.ntmps49
      go_wp2_with (first | (go_at_call 84; refine (hC.out _).mono ?_; rintro e w1 ⟨rfl, hw1⟩; subst hw1) | (go_at_call 43; refine (hD.out).mono ?_; rintro e w2 ⟨rfl, B2⟩) | (go_at_call 85; refine (hO.out _).mono ?_; rintro e w3 ⟨rfl, hw3⟩; subst hw3))
      go_ret
      exact ⟨by rw [hP2.out]; rfl, Below.refl _ _⟩

set_option maxRecDepth 100000 in
theorem local_leave (w W : World) (tmps : Array Value) (R : Bool) (D : Nat) (bx : List (Nat × TypeId × Value)) (h : BSt w bx [D] W) (h0 : bx[0]? = some (w.heap.size, 4, .bool R)) (ht : tmps[2]? = some (.pointer (some ⟨w.heap.size, 0, none⟩))) :
    LeavesInM Fence.wide 6 Tryz.prog Tryz.f83 tmps (fun e w' => e = .returned (.bool R) ∧ Below w.heap.size w w') [{ target := .collected D, args := #[] }] .returning W := by
  have h1 := (h.dfr D (by simp)).2
  have h2 := h.take (by simp)
  have c1 := (h2.get 0 h0).cell
  refine ⟨by simp, .inl ⟨_, _, rfl, run_takeDeferred h1, ?_⟩⟩
  exact ⟨.bool R, by simp [results, Tryz.results83, go_sem, ht, c1, Array.getD_eq_getD_getElem?], rfl, h2.bel⟩

/-- May a piece of a local part be? -/
def pcL (u : List UInt8) : Bool := !u.isEmpty && u.all (fun b => locN b.toNat)

set_option maxRecDepth 100000 in
set_option maxHeartbeats 4000000 in
theorem local_in (s : List UInt8) (hs : s.length ≤ 1048576) (m : Int) (w : World) (hm : ML w m) :
    CallsIn Fence.wide 6 Tryz.prog 83 #[.string (tx s)] w fun e w' => e = .returned (.bool (locL s)) ∧ Below w.heap.size w w' := by
  refine callsIn_of_wp_marks Tryz.func83 rfl trivial ?_ rfl
  simp only [Tryz.ntmps83, List.size_toArray, List.length_cons, List.length_nil, Nat.reduceAdd, Nat.reduceSub, Array.replicate_succ, Array.replicate_zero, List.push_toArray, List.append_toArray, List.nil_append, List.cons_append]
  have hsz := tx_size s
  by_cases hlen : s.length ≤ 64
  · have hgt : ¬ (64 : Int) < ((tx s).size : Int) := by rw [hsz]; omega
    gi_wp2_with (refine ⟨trivial, ?_⟩; gi_at_call 64; refine (labels_in _ _ _).mono ?_; rintro e w' ⟨rfl, rfl⟩)
    rename_i K hK
    have b0 := ((BSt.start w).new 4 (.bool false)).new 9 (.string (tx s))
    simp only [World.size_alloc, List.nil_append, List.cons_append] at b0
    generalize (w.alloc (.cells #[.bool false] 4)).alloc (.cells #[.string (tx s)] 9) = W0 at b0 ⊢
    have HR : Hid ((labs s).all pcL = locL s) := by unfold Hid locL; rw [decide_eq_true hlen, Bool.true_and]; rfl
    obtain ⟨R, hRd⟩ : ∃ R, locL s = R := ⟨_, rfl⟩
    rw [hRd] at HR
    replace hRd := hide hRd
    generalize hA : Act.mk _ _ = A
    refine range_enter rfl (by decide) (gf := 96) (lb := #[.pointer (some ⟨w.heap.size + 1, 0, none⟩)]) (by subst hA; rfl) trivial (enters_of Tryz.func96 (by kernel_rfl) rfl) ?_
    intro fn hfn
    generalize hrec : recOf fn _ _ _ _ _ = r
    have i0 := LSt.enter b0 (r .ready none)
    generalize hW1 : (W0.alloc (.deferred (some []))).alloc (.loop (r .ready none)) = W1 at i0 ⊢
    generalize W0.heap.size + 1 = l at i0 ⊢
    generalize W0.heap.size = D at i0 hrec ⊢
    clear hW1
    refine (labels1_in 5 (by decide) l (w.heap.size + 1) s hs m (fun ws W => LSt w [(w.heap.size, 4, .bool false), (w.heap.size + 1, 9, .string (tx s))] [D] l (r .ready none) W ∧ ws.all pcL = R)
      (fun W => LSt w [(w.heap.size, 4, .bool false), (w.heap.size + 1, 9, .string (tx s))] [D] l (r (.done) (some .ret)) W ∧ R = false) W1 ?_ (i0.st.get 1 rfl).cell ?_ ?_ ⟨i0, HR.out⟩).mono ?_
    · rintro ws W2 ⟨hst, _⟩
      exact hm.below hst.st.bel
    · rintro ws W2 W3 ⟨hst, hr⟩ hb
      exact ⟨hst.below hb, hr⟩
    · rintro u ws W2 ⟨hst, hr⟩ hu
      have hlp := hst.loop
      rw [← hrec] at hlp
      subst hA
      refine range_round (a₁ := ?A1) hfn hlp rfl ?_ ?_
      rotate_left
      · intro K hK
        gi_wp2
        exact hK
      · rw [hrec]
        have HI := hide (hst.put (r .busy none))
        generalize W2.putObj l (.loop (r .busy none)) = W3 at HI ⊢
        have hC := hide (fun W => all_local (fun _ n => locN n) (tx u) (by rw [tx_size]; omega) W (fun k b _ hb => isLocal1_any k b W hb))
        rw [tx_list, allP_all] at hC
        have hG : Hid (pcL u = true → ws.all pcL = R) := fun e => by rw [List.all_cons, e, Bool.true_and] at hr; exact hr
        have hG2 : Hid (pcL u = false → R = false) := fun e => by rw [List.all_cons, e, Bool.false_and] at hr; exact hr.symm
        have hP : pcL u = (!u.isEmpty && u.all (fun b => locN b.toNat)) := rfl
        clear hr hst hlp hrec i0 hK b0 HR
        generalize pcL u = pc at hP hG hG2
        generalize u.all (fun b => locN b.toNat) = q at hC hP
        have c0 := (HI.out.st.get 0 rfl).cell
        have f0 := (HI.out.st.get 0 rfl).frozen
        by_cases hu0 : u = []
        · obtain rfl : pc = false := by rw [hP, hu0]; rfl
          have h0e : (tx u).toList.isEmpty = true := by rw [Lib.toList_data, tx_list, hu0]; rfl
          clear hP hu0
          gi_wp2_with (refine ⟨trivial, ?_⟩)
          have HI3 := HI.out.set 0 rfl (.bool false)
          exact ⟨HI3.loop, .inr ⟨rfl, HI3.put _, hG2.out (by trivial)⟩⟩
        · have hne : u.isEmpty = false := by cases u with | nil => exact absurd rfl hu0 | cons => rfl
          rw [hne] at hP
          have hne2 : (tx u).toList.isEmpty = false := by rw [Lib.toList_data, tx_list]; exact hne
          clear hne
          cases q with
          | true =>
            obtain rfl : pc = true := hP
            gi_wp2_with (refine ⟨trivial, ?_⟩; gi_at_call 98; refine (CallsIn.inRound l (callsIn_wide.2 (hC.out _))).mono ?_; rintro e w2 ⟨rfl, hw2⟩; subst hw2)
            exact ⟨HI.out.loop, .inl ⟨rfl, HI.out.put _, hG.out (by trivial)⟩⟩
          | false =>
            obtain rfl : pc = false := hP
            gi_wp2_with (refine ⟨trivial, ?_⟩; gi_at_call 98; refine (CallsIn.inRound l (callsIn_wide.2 (hC.out _))).mono ?_; rintro e w2 ⟨rfl, hw2⟩; subst hw2)
            have HI3 := HI.out.set 0 rfl (.bool false)
            exact ⟨HI3.loop, .inr ⟨rfl, HI3.put _, hG2.out (by trivial)⟩⟩
    · rintro e W' ⟨⟨v, rfl⟩, ⟨hst, hr⟩ | ⟨hst, hr⟩⟩
      · have hlp := hst.loop
        rw [← hrec] at hlp
        refine range_done hlp ?_
        rw [hrec]
        have HI := hide (hst.put (r .exhausted none))
        generalize W'.putObj l (.loop (r .exhausted none)) = W3 at HI ⊢
        subst hA
        refine hK _ _ ?_
        have hr2 : Hid (true = R) := hr
        clear hr hst hlp hrec i0 hK b0 HR
        have c0 := (HI.out.st.get 0 rfl).cell
        have f0 := (HI.out.st.get 0 rfl).frozen
        gi_wp2
        rw [hRd.out, ← hr2.out]
        exact local_leave w _ _ _ D _ (HI.out.st.set 0 rfl _) rfl rfl
      · have hlp := hst.loop
        rw [← hrec] at hlp
        refine range_left hlp ?_
        rw [hrec]
        have HI := hide (hst.put (r .exhausted (some .ret)))
        generalize W'.putObj l (.loop (r .exhausted (some .ret))) = W3 at HI ⊢
        subst hA
        clear hst hlp hrec i0 hK b0 HR
        gi_wp2
        rw [hRd.out, hr]
        exact local_leave w _ _ _ D _ HI.out.st rfl rfl
  · have hgt : (64 : Int) < ((tx s).size : Int) := by rw [hsz]; omega
    have hF : Hid (locL s = false) := by unfold Hid locL; rw [decide_eq_false hlen]; rfl
    have b0 := hide ((BSt.start w).new 4 (.bool false))
    gi_wp2
    have c1 := (b0.out.get 0 rfl).cell
    rw [hF.out]
    refine ⟨.bool false, by simp [results, Tryz.results83, go_sem, c1, Array.getD_eq_getD_getElem?], rfl, b0.out.bel⟩

set_option maxRecDepth 100000 in
set_option maxHeartbeats 1000000 in
theorem email_any (s : List UInt8) (hs : s.length ≤ 1048576) (m : Int) (w : World) (hm : ML w m) :
    Calls Tryz.prog 47 #[.string (tx s)] w fun e w' => e = .returned (.bool (mailL s)) ∧ Below w.heap.size w w' := by
  obtain ⟨c1, c2, _⟩ := cutD_rest 64 s
  have hC := hide (cut_any s 64 hs m w hm)
  have hL := hide (fun W h => callsIn_wide.1 (local_in (cutD 64 s).1 (by omega) m W h))
  have hD := hide (fun W h => dns_any (cutD 64 s).2.1 (by omega) m W h)
  have hP : Hid (mailL s = (locL (cutD 64 s).1 && dnsL (cutD 64 s).2.1)) := rfl
  have HM := hide hm
  clear c1 c2 hm
  generalize (cutD 64 s).1 = a at hC hL hP
  generalize (cutD 64 s).2.1 = b at hC hD hP
  generalize (cutD 64 s).2.2 = fd at hC
  generalize locL a = p at hL hP
  generalize dnsL b = q at hD hP
  generalize mailL s = R at hP ⊢
  cases p with
  | false =>
    go_enter Tryz.func47, Tryz.ntmps47
    go_wp2_with (first | (go_at_call 82; refine (hC.out).mono ?_; rintro e w1 ⟨rfl, B1⟩; have hm1 := hide (HM.out.below B1)) | (go_at_call 83; refine (hL.out _ hm1.out).mono ?_; rintro e w2 ⟨rfl, B2⟩))
    go_ret
    exact ⟨by rw [hP.out]; rfl, B1.trans (B2.mono B1.size)⟩
  | true =>
    go_enter Tryz.func47, Tryz.ntmps47
    go_wp2_with (first | (go_at_call 82; refine (hC.out).mono ?_; rintro e w1 ⟨rfl, B1⟩; have hm1 := hide (HM.out.below B1)) | (go_at_call 83; refine (hL.out _ hm1.out).mono ?_; rintro e w2 ⟨rfl, B2⟩; have hm2 := hide (hm1.out.below B2)) | (go_at_call 43; refine (hD.out _ hm2.out).mono ?_; rintro e w3 ⟨rfl, B3⟩))
    go_ret
    exact ⟨by rw [hP.out]; rfl, (B1.trans (B2.mono B1.size)).trans (B3.mono (Nat.le_trans B1.size B2.size))⟩

end Go.Proofs.YtklchpdpooikdaaGreatDoor
