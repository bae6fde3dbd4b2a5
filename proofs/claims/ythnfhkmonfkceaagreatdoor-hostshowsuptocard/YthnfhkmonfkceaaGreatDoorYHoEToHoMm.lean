/-
  host.Wild, host.Email, host.IP: is a text a wild name, a mail address, a network address?
  When a pattern stands for a host, on lists of bytes. No program.
-/
import Derived.Test.YthnfhkmonfkceaaGreatDoorYHoBToHoD
import Derived.Lib.Fold
import Derived.Test.YthnfhkmonfkceaaGreatDoorYHoMToNmRef
namespace Go.Proofs.YthnfhkmonfkceaaGreatDoor
open Go.RowKit Go.Shelf Go.IntWalk
attribute [local go_sem] Oper.semAt_some

theorem contains_byte (c : UInt8) : ∀ l : List UInt8, decide (0 ≤ Lib.indexByte l c) = l.contains c
  | [] => by simp [Lib.indexByte]
  | b :: l => by
    have ih := contains_byte c l
    have hge := Lib.indexByte_ge l c
    rw [Lib.indexByte, List.contains_cons, ← ih]
    by_cases h : b = c
    · subst h; simp
    · have h1 : (b == c) = false := by simpa using h
      have h2 : (c == b) = false := by simpa using fun e => h e.symm
      rw [h1, h2]
      simp only [Bool.false_eq_true, if_false, Bool.false_or]
      by_cases h0 : 0 ≤ Lib.indexByte l c
      · rw [if_neg (by simp; omega), decide_eq_true h0, decide_eq_true (by omega)]
      · rw [if_pos (by simp; omega), decide_eq_false h0, decide_eq_false (by omega)]

set_option maxRecDepth 100000 in
set_option maxHeartbeats 1000000 in
theorem ip_any (s : List UInt8) (w : World) : Calls Tryz.prog 25 #[.string (tx s)] w fun e w' => e = .returned (.bool (ipL s)) ∧ w' = w := by
  have hs := tx_size s
  have hP : Hid (ipL s = (decide (s.length = 4) || decide (s.length = 16))) := rfl
  generalize ipL s = R at hP ⊢
  by_cases h4 : s.length = 4
  · have h4' : (((tx s).size : Int) == 4) = true := by simp; omega
    have HP : Hid (R = true) := by unfold Hid; rw [hP.out, decide_eq_true h4]; rfl
    clear hs h4
    go_enter Tryz.func25, Tryz.ntmps25
    go_wp2
    go_ret
    exact ⟨by rw [HP.out]; rfl, rfl⟩
  have h4' : (((tx s).size : Int) == 4) = false := by simp; omega
  by_cases h16 : s.length = 16
  · have h16' : (((tx s).size : Int) == 16) = true := by simp; omega
    have HP : Hid (R = true) := by unfold Hid; rw [hP.out, decide_eq_true h16, Bool.or_true]
    clear hs h4 h16
    go_enter Tryz.func25, Tryz.ntmps25
    go_wp2
    go_ret
    exact ⟨by rw [HP.out]; rfl, rfl⟩
  · have h16' : (((tx s).size : Int) == 16) = false := by simp; omega
    have HP : Hid (R = false) := by unfold Hid; rw [hP.out, decide_eq_false h4, decide_eq_false h16]; rfl
    clear hs h4 h16
    go_enter Tryz.func25, Tryz.ntmps25
    go_wp2
    go_ret
    exact ⟨by rw [HP.out]; rfl, rfl⟩

/-- A wild name: *. behind it a host's name with a dot. -/
theorem wildL_prefix (s : List UInt8) : wildL s = (Lib.hasPrefix s [42, 46] && (decide (s.length ≤ 253) && (dnsL (Lib.trimPrefix s [42, 46]) && (Lib.trimPrefix s [42, 46]).contains 46))) := by
  unfold Lib.trimPrefix Lib.hasPrefix
  match s with
  | [] => rfl
  | [a] => simp [wildL, List.isPrefixOf]
  | a :: b :: r =>
    simp only [wildL, List.isPrefixOf, List.length_cons, Bool.and_true]
    by_cases h : a = 42 ∧ b = 46
    · obtain ⟨rfl, rfl⟩ := h
      simp
    · rw [decide_eq_false h]
      have : ((42 : UInt8) == a && (46 : UInt8) == b) = false := by
        rw [Bool.and_eq_false_iff]
        by_cases ha : a = 42
        · right; simpa using fun e => h ⟨ha, e.symm⟩
        · left; simpa using fun e => ha e.symm
      rw [this]
      rfl

set_option maxRecDepth 100000 in
set_option maxHeartbeats 1000000 in
theorem wild_any (s : List UInt8) (hs : s.length ≤ 1048576) (m : Int) (w : World) (hm : ML w m) :
    Calls Tryz.prog 23 #[.string (tx s)] w fun e w' => e = .returned (.bool (wildL s)) ∧ Below w.heap.size w w' := by
  have hz := tx_size s
  have hC := hide (fun W => Tryz.strings_CutPrefix (tx s) ⟨#[42, 46]⟩ W)
  have e1 : (⟨#[42, 46]⟩ : ByteArray).data.toList = [42, 46] := rfl
  rw [e1, tx_list] at hC
  have hrl : (Lib.trimPrefix s [42, 46]).length ≤ s.length := by unfold Lib.trimPrefix; split <;> simp
  have hD := hide (dns_any (Lib.trimPrefix s [42, 46]) (by omega) m w hm)
  have hO := hide (fun W => Tryz.strings_Contains_one (tx (Lib.trimPrefix s [42, 46])) 46 W)
  rw [tx_list, contains_byte] at hO
  have hP := hide (wildL_prefix s)
  generalize Lib.trimPrefix s [42, 46] = t at hC hD hO hP
  generalize Lib.hasPrefix s [42, 46] = pf at hC hP
  generalize dnsL t = d at hD hP
  generalize t.contains 46 = o at hO hP
  generalize wildL s = R at hP ⊢
  clear hrl e1
  cases pf with
  | false =>
    go_enter Tryz.func23, Tryz.ntmps23
    go_wp2_with (first | (go_at_call 49; refine (hC.out _).mono ?_; rintro e w1 ⟨rfl, hw1⟩; subst hw1) | (go_at_call 22; refine (hD.out).mono ?_; rintro e w2 ⟨rfl, B2⟩) | (go_at_call 50; refine (hO.out _).mono ?_; rintro e w3 ⟨rfl, hw3⟩; subst hw3))
    go_ret
    exact ⟨by rw [hP.out]; rfl, Below.refl _ _⟩
  | true =>
    by_cases hle : s.length ≤ 253
    · have hleI : ((tx s).size : Int) ≤ 253 := by omega
      have hP2 : Hid (R = (d && o)) := by unfold Hid; rw [hP.out, decide_eq_true hle]; rfl
      clear hz hle hP
      cases d with
      | false =>
        go_enter Tryz.func23, Tryz.ntmps23
        go_wp2_with (first | (go_at_call 49; refine (hC.out _).mono ?_; rintro e w1 ⟨rfl, hw1⟩; subst hw1) | (go_at_call 22; refine (hD.out).mono ?_; rintro e w2 ⟨rfl, B2⟩) | (go_at_call 50; refine (hO.out _).mono ?_; rintro e w3 ⟨rfl, hw3⟩; subst hw3))
        go_ret
        exact ⟨by rw [hP2.out]; rfl, B2⟩
      | true =>
        go_enter Tryz.func23, Tryz.ntmps23
        go_wp2_with (first | (go_at_call 49; refine (hC.out _).mono ?_; rintro e w1 ⟨rfl, hw1⟩; subst hw1) | (go_at_call 22; refine (hD.out).mono ?_; rintro e w2 ⟨rfl, B2⟩) | (go_at_call 50; refine (hO.out _).mono ?_; rintro e w3 ⟨rfl, hw3⟩; subst hw3))
        go_ret
        exact ⟨by rw [hP2.out]; rfl, B2⟩
    · have hleI : ¬ ((tx s).size : Int) ≤ 253 := by omega
      have hP2 : Hid (R = false) := by unfold Hid; rw [hP.out, decide_eq_false hle]; rfl
      clear hz hle hP
      go_enter Tryz.func23, Tryz.ntmps23
      go_wp2_with (first | (go_at_call 49; refine (hC.out _).mono ?_; rintro e w1 ⟨rfl, hw1⟩; subst hw1) | (go_at_call 22; refine (hD.out).mono ?_; rintro e w2 ⟨rfl, B2⟩) | (go_at_call 50; refine (hO.out _).mono ?_; rintro e w3 ⟨rfl, hw3⟩; subst hw3))
      go_ret
      exact ⟨by rw [hP2.out]; rfl, Below.refl _ _⟩

set_option maxRecDepth 100000 in
theorem local_leave (w W : World) (tmps : Array Value) (R : Bool) (D : Nat) (bx : List (Nat × TypeId × Value)) (h : BSt w bx [D] W) (h0 : bx[0]? = some (w.heap.size, 4, .bool R)) (ht : tmps[2]? = some (.pointer (some ⟨w.heap.size, 0, none⟩))) :
    LeavesInM Fence.wide 6 Tryz.prog Tryz.f51 tmps (fun e w' => e = .returned (.bool R) ∧ Below w.heap.size w w') [{ target := .collected D, args := #[] }] .returning W := by
  have h1 := (h.dfr D (by simp)).2
  have h2 := h.take (by simp)
  have c1 := (h2.get 0 h0).cell
  refine ⟨by simp, .inl ⟨_, _, rfl, run_takeDeferred h1, ?_⟩⟩
  exact ⟨.bool R, by simp [results, Tryz.results51, go_sem, ht, c1, Array.getD_eq_getD_getElem?], rfl, h2.bel⟩

/-- May a piece of a local part be? -/
def pcL (u : List UInt8) : Bool := !u.isEmpty && u.all (fun b => locN b.toNat)

set_option maxRecDepth 100000 in
set_option maxHeartbeats 4000000 in
theorem local_in (s : List UInt8) (hs : s.length ≤ 1048576) (m : Int) (w : World) (hm : ML w m) :
    CallsIn Fence.wide 6 Tryz.prog 51 #[.string (tx s)] w fun e w' => e = .returned (.bool (locL s)) ∧ Below w.heap.size w w' := by
  refine callsIn_of_wp_marks Tryz.func51 rfl trivial ?_ rfl
  simp only [Tryz.ntmps51, List.size_toArray, List.length_cons, List.length_nil, Nat.reduceAdd, Nat.reduceSub, Array.replicate_succ, Array.replicate_zero, List.push_toArray, List.append_toArray, List.nil_append, List.cons_append]
  have hsz := tx_size s
  by_cases hlen : s.length ≤ 64
  · have hgt : ¬ (64 : Int) < ((tx s).size : Int) := by rw [hsz]; omega
    gi_wp2_with (refine ⟨trivial, ?_⟩; gi_at_call 46; refine (labels_in _ _ _).mono ?_; rintro e w' ⟨rfl, rfl⟩)
    rename_i K hK
    have b0 := ((BSt.start w).new 4 (.bool false)).new 9 (.string (tx s))
    simp only [World.size_alloc, List.nil_append, List.cons_append] at b0
    generalize (w.alloc (.cells #[.bool false] 4)).alloc (.cells #[.string (tx s)] 9) = W0 at b0 ⊢
    have HR : Hid ((labs s).all pcL = locL s) := by unfold Hid locL; rw [decide_eq_true hlen, Bool.true_and]; rfl
    obtain ⟨R, hRd⟩ : ∃ R, locL s = R := ⟨_, rfl⟩
    rw [hRd] at HR
    replace hRd := hide hRd
    generalize hA : Act.mk _ _ = A
    refine range_enter rfl (by decide) (gf := 65) (lb := #[.pointer (some ⟨w.heap.size + 1, 0, none⟩)]) (by subst hA; rfl) trivial (enters_of Tryz.func65 (by kernel_rfl) rfl) ?_
    intro fn hfn
    generalize hrec : recOf fn _ _ _ _ _ = r
    have i0 := LSt.enter b0 (r .ready none)
    generalize hW1 : (W0.alloc (.deferred (some []))).alloc (.loop (r .ready none)) = W1 at i0 ⊢
    generalize W0.heap.size + 1 = l at i0 ⊢
    generalize W0.heap.size = D at i0 hrec ⊢
    clear hW1
    refine (labels1_in 5 (by decide) l (w.heap.size + 1) s hs m (fun ws W => LSt w [(w.heap.size, 4, .bool false), (w.heap.size + 1, 9, .string (tx s))] [D] l (r .ready none) W ∧ ws.all pcL = R)
      (fun W => LSt w [(w.heap.size, 4, .bool false), (w.heap.size + 1, 9, .string (tx s))] [D] l (r (.done) (some .ret)) W ∧ R = false) W1 ?_ (i0.st.get 1 rfl).cell ?_ ?_ ⟨i0, HR.out⟩).mono ?_
    · rintro ws W2 ⟨hst, _⟩
      exact hm.below hst.st.bel
    · rintro ws W2 W3 ⟨hst, hr⟩ hb
      exact ⟨hst.below hb, hr⟩
    · rintro u ws W2 ⟨hst, hr⟩ hu
      have hlp := hst.loop
      rw [← hrec] at hlp
      subst hA
      refine range_round (a₁ := ?A1) hfn hlp rfl ?_ ?_
      rotate_left
      · intro K hK
        gi_wp2
        exact hK
      · rw [hrec]
        have HI := hide (hst.put (r .busy none))
        generalize W2.putObj l (.loop (r .busy none)) = W3 at HI ⊢
        have hC := hide (fun W => all_local (fun _ n => locN n) (tx u) (by rw [tx_size]; omega) W (fun k b _ hb => isLocal1_any k b W hb))
        rw [tx_list, allP_all] at hC
        have hG : Hid (pcL u = true → ws.all pcL = R) := fun e => by rw [List.all_cons, e, Bool.true_and] at hr; exact hr
        have hG2 : Hid (pcL u = false → R = false) := fun e => by rw [List.all_cons, e, Bool.false_and] at hr; exact hr.symm
        have hP : pcL u = (!u.isEmpty && u.all (fun b => locN b.toNat)) := rfl
        clear hr hst hlp hrec i0 hK b0 HR
        generalize pcL u = pc at hP hG hG2
        generalize u.all (fun b => locN b.toNat) = q at hC hP
        have c0 := (HI.out.st.get 0 rfl).cell
        have f0 := (HI.out.st.get 0 rfl).frozen
        by_cases hu0 : u = []
        · obtain rfl : pc = false := by rw [hP, hu0]; rfl
          have h0e : (tx u).toList.isEmpty = true := by rw [Lib.toList_data, tx_list, hu0]; rfl
          clear hP hu0
          gi_wp2_with (refine ⟨trivial, ?_⟩)
          have HI3 := HI.out.set 0 rfl (.bool false)
          exact ⟨HI3.loop, .inr ⟨rfl, HI3.put _, hG2.out (by trivial)⟩⟩
        · have hne : u.isEmpty = false := by cases u with | nil => exact absurd rfl hu0 | cons => rfl
          rw [hne] at hP
          have hne2 : (tx u).toList.isEmpty = false := by rw [Lib.toList_data, tx_list]; exact hne
          clear hne
          cases q with
          | true =>
            obtain rfl : pc = true := hP
            gi_wp2_with (refine ⟨trivial, ?_⟩; gi_at_call 66; refine (CallsIn.inRound l (callsIn_wide.2 (hC.out _))).mono ?_; rintro e w2 ⟨rfl, hw2⟩; subst hw2)
            exact ⟨HI.out.loop, .inl ⟨rfl, HI.out.put _, hG.out (by trivial)⟩⟩
          | false =>
            obtain rfl : pc = false := hP
            gi_wp2_with (refine ⟨trivial, ?_⟩; gi_at_call 66; refine (CallsIn.inRound l (callsIn_wide.2 (hC.out _))).mono ?_; rintro e w2 ⟨rfl, hw2⟩; subst hw2)
            have HI3 := HI.out.set 0 rfl (.bool false)
            exact ⟨HI3.loop, .inr ⟨rfl, HI3.put _, hG2.out (by trivial)⟩⟩
    · rintro e W' ⟨⟨v, rfl⟩, ⟨hst, hr⟩ | ⟨hst, hr⟩⟩
      · have hlp := hst.loop
        rw [← hrec] at hlp
        refine range_done hlp ?_
        rw [hrec]
        have HI := hide (hst.put (r .exhausted none))
        generalize W'.putObj l (.loop (r .exhausted none)) = W3 at HI ⊢
        subst hA
        refine hK _ _ ?_
        have hr2 : Hid (true = R) := hr
        clear hr hst hlp hrec i0 hK b0 HR
        have c0 := (HI.out.st.get 0 rfl).cell
        have f0 := (HI.out.st.get 0 rfl).frozen
        gi_wp2
        rw [hRd.out, ← hr2.out]
        exact local_leave w _ _ _ D _ (HI.out.st.set 0 rfl _) rfl rfl
      · have hlp := hst.loop
        rw [← hrec] at hlp
        refine range_left hlp ?_
        rw [hrec]
        have HI := hide (hst.put (r .exhausted (some .ret)))
        generalize W'.putObj l (.loop (r .exhausted (some .ret))) = W3 at HI ⊢
        subst hA
        clear hst hlp hrec i0 hK b0 HR
        gi_wp2
        rw [hRd.out, hr]
        exact local_leave w _ _ _ D _ HI.out.st rfl rfl
  · have hgt : (64 : Int) < ((tx s).size : Int) := by rw [hsz]; omega
    have hF : Hid (locL s = false) := by unfold Hid locL; rw [decide_eq_false hlen]; rfl
    have b0 := hide ((BSt.start w).new 4 (.bool false))
    gi_wp2
    have c1 := (b0.out.get 0 rfl).cell
    rw [hF.out]
    refine ⟨.bool false, by simp [results, Tryz.results51, go_sem, c1, Array.getD_eq_getD_getElem?], rfl, b0.out.bel⟩

set_option maxRecDepth 100000 in
set_option maxHeartbeats 1000000 in
theorem email_any (s : List UInt8) (hs : s.length ≤ 1048576) (m : Int) (w : World) (hm : ML w m) :
    Calls Tryz.prog 24 #[.string (tx s)] w fun e w' => e = .returned (.bool (mailL s)) ∧ Below w.heap.size w w' := by
  obtain ⟨c1, c2, _⟩ := cutD_rest 64 s
  have hC := hide (cut_any s 64 hs m w hm)
  have hL := hide (fun W h => callsIn_wide.1 (local_in (cutD 64 s).1 (by omega) m W h))
  have hD := hide (fun W h => dns_any (cutD 64 s).2.1 (by omega) m W h)
  have hP : Hid (mailL s = (locL (cutD 64 s).1 && dnsL (cutD 64 s).2.1)) := rfl
  have HM := hide hm
  clear c1 c2 hm
  generalize (cutD 64 s).1 = a at hC hL hP
  generalize (cutD 64 s).2.1 = b at hC hD hP
  generalize (cutD 64 s).2.2 = fd at hC
  generalize locL a = p at hL hP
  generalize dnsL b = q at hD hP
  generalize mailL s = R at hP ⊢
  cases p with
  | false =>
    go_enter Tryz.func24, Tryz.ntmps24
    go_wp2_with (first | (go_at_call 27; refine (hC.out).mono ?_; rintro e w1 ⟨rfl, B1⟩; have hm1 := hide (HM.out.below B1)) | (go_at_call 51; refine (hL.out _ hm1.out).mono ?_; rintro e w2 ⟨rfl, B2⟩))
    go_ret
    exact ⟨by rw [hP.out]; rfl, B1.trans (B2.mono B1.size)⟩
  | true =>
    go_enter Tryz.func24, Tryz.ntmps24
    go_wp2_with (first | (go_at_call 27; refine (hC.out).mono ?_; rintro e w1 ⟨rfl, B1⟩; have hm1 := hide (HM.out.below B1)) | (go_at_call 51; refine (hL.out _ hm1.out).mono ?_; rintro e w2 ⟨rfl, B2⟩; have hm2 := hide (hm1.out.below B2)) | (go_at_call 22; refine (hD.out _ hm2.out).mono ?_; rintro e w3 ⟨rfl, B3⟩))
    go_ret
    exact ⟨by rw [hP.out]; rfl, (B1.trans (B2.mono B1.size)).trans (B3.mono (Nat.le_trans B1.size B2.size))⟩

end Go.Proofs.YthnfhkmonfkceaaGreatDoor

namespace Go.Proofs.YthnfhkmonfkceaaGreatDoor

/-- What stands behind the first label and its dot. -/
def behL (l : List UInt8) : List UInt8 := (cutD 46 l).2.1
/-- Does a pattern stand for a host? -/
def matchL (p s : List UInt8) : Bool := dnsL s && (if dnsL p = true then Lib.equalFold p s else wildL p && Lib.equalFold (behL p) (behL s))

theorem labP_ascii (n k b : Nat) (h : labP n k b = true) : b < 128 := by
  unfold labP plN digN at h
  simp at h
  omega
theorem allP_mem (f : Nat → Nat → Bool) (Q : Nat → Prop) (hf : ∀ k b, f k b = true → Q b) : ∀ (l : List UInt8) (k : Nat), allP f k l = true → ∀ b ∈ l, Q b.toNat
  | [], _, _, b, h => by cases h
  | c :: r, k, hl, b, h => by
    rw [allP, Bool.and_eq_true] at hl
    rcases List.mem_cons.1 h with rfl | h
    · exact hf _ _ hl.1
    · exact allP_mem f Q hf r _ hl.2 b h
theorem labL_ascii (u : List UInt8) (h : labL u = true) : ∀ b ∈ u, b.toNat < 128 := by
  unfold labL at h
  rw [Bool.and_eq_true, Bool.and_eq_true] at h
  exact allP_mem _ (· < 128) (fun k b hb => labP_ascii _ k b hb) u 0 h.2.2
theorem labsG_bytes (Q : UInt8 → Prop) (h46 : Q 46) : ∀ (l acc : List UInt8), (∀ u ∈ labsG acc l, ∀ b ∈ u, Q b) → (∀ b ∈ acc, Q b) ∧ ∀ b ∈ l, Q b
  | [], acc, h => ⟨h acc (by simp [labsG]), fun b hb => by cases hb⟩
  | c :: r, acc, h => by
    rw [labsG] at h
    by_cases hc : c = 46
    · rw [if_pos hc] at h
      have ih := labsG_bytes Q h46 r [] (fun u hu => h u (List.mem_cons_of_mem _ hu))
      refine ⟨h acc (by simp), fun b hb => ?_⟩
      rcases List.mem_cons.1 hb with rfl | hb
      · rw [hc]; exact h46
      · exact ih.2 b hb
    · rw [if_neg hc] at h
      have ih := labsG_bytes Q h46 r (acc ++ [c]) h
      refine ⟨fun b hb => ih.1 b (by simp [hb]), fun b hb => ?_⟩
      rcases List.mem_cons.1 hb with rfl | hb
      · exact ih.1 b (by simp)
      · exact ih.2 b hb
theorem dns_labs {l : List UInt8} (h : dnsL l = true) : (labs l).all labL = true := by
  unfold dnsL at h
  rw [Bool.and_eq_true, dnsG_all, Bool.and_eq_true] at h
  exact h.2.1
theorem dns_ascii {l : List UInt8} (h : dnsL l = true) : ∀ b ∈ l, b.toNat < 128 :=
  (labsG_bytes (fun b => b.toNat < 128) (by decide) l [] (fun u hu b hb => labL_ascii u (List.all_eq_true.1 (dns_labs h) u hu) b hb)).2
theorem dns_ne {l : List UInt8} (h : dnsL l = true) : l ≠ [] := by rintro rfl; rw [dnsL_nil] at h; cases h
theorem cutD_mem (d : UInt8) : ∀ (l : List UInt8), (∀ b ∈ (cutD d l).1, b ∈ l) ∧ ∀ b ∈ (cutD d l).2.1, b ∈ l
  | [] => by simp [cutD]
  | c :: r => by
    have ih := cutD_mem d r
    rw [cutD]
    split
    · exact ⟨fun b h => (by cases h), fun b h => List.mem_cons_of_mem _ h⟩
    · refine ⟨fun b h => ?_, fun b h => List.mem_cons_of_mem _ (ih.2 b h)⟩
      rcases List.mem_cons.1 h with rfl | h
      · simp
      · exact List.mem_cons_of_mem _ (ih.1 b h)
theorem wild_split {l : List UInt8} (h : wildL l = true) : ∃ r, l = 42 :: 46 :: r ∧ dnsL r = true ∧ behL l = r ∧ 1 < (labs r).length ∧ l.length ≤ 253 := by
  match l, h with
  | a :: b :: r, h =>
    simp only [wildL, Bool.and_eq_true, decide_eq_true_eq] at h
    obtain ⟨⟨rfl, rfl⟩, h1, h2, h3⟩ := h
    refine ⟨r, rfl, h2, ?_, ?_, by simp; omega⟩
    · unfold behL; rw [cutD, if_neg (by decide), cutD, if_pos rfl]
    · have : decide (1 < (labsG [] r).length) = r.contains 46 := by
        have go : ∀ (l acc : List UInt8), decide (1 < (labsG acc l).length) = l.contains 46 := by
          intro l
          induction l with
          | nil => intro acc; simp [labsG]
          | cons c r ih =>
            intro acc
            rw [labsG, List.contains_cons]
            by_cases hc : c = 46
            · rw [if_pos hc, hc]
              have h1 : 0 < (labsG [] r).length := List.length_pos_iff.2 (labsG_ne _ _)
              simp; omega
            · have h2 : ((46 : UInt8) == c) = false := by simpa using fun e => hc e.symm
              rw [if_neg hc, ih, h2, Bool.false_or]
        exact go r []
      rw [h3] at this
      simpa [labs] using this
theorem beh_ascii {s : List UInt8} (h : dnsL s = true) : ∀ b ∈ behL s, b.toNat < 128 := fun b hb => dns_ascii h b ((cutD_mem 46 s).2 b hb)

/-- What is alike but for great and small letters has its dots at the same places. -/
theorem fold_dot {x y : UInt8} (h : Lib.foldEq x y = true) : x = 46 ↔ y = 46 := by
  unfold Lib.foldEq at h
  rw [decide_eq_true_eq] at h
  have e : ∀ z : UInt8, z = 46 ↔ z.toNat = 46 := fun z => ⟨fun e => by rw [e]; rfl, fun e => UInt8.toNat_inj.1 (by rw [e]; rfl)⟩
  rw [e x, e y]
  omega
theorem fold_labs : ∀ (a b x y : List UInt8), Lib.equalFold a b = true → (labsG x a).length = (labsG y b).length
  | [], [], x, y, _ => by simp [labsG]
  | [], c :: r, x, y, h => by simp [Lib.equalFold] at h
  | c :: r, [], x, y, h => by simp [Lib.equalFold] at h
  | c :: r, d :: q, x, y, h => by
    simp only [Lib.equalFold, Bool.and_eq_true] at h
    have hd := fold_dot h.1
    rw [labsG, labsG]
    by_cases hc : c = 46
    · rw [if_pos hc, if_pos (hd.1 hc), List.length_cons, List.length_cons, fold_labs r q [] [] h.2]
    · rw [if_neg hc, if_neg (fun e => hc (hd.2 e)), fold_labs r q _ _ h.2]
theorem fold_nil {a : List UInt8} (h : Lib.equalFold a [] = true) : a = [] := by cases a with | nil => rfl | cons c r => simp [Lib.equalFold] at h
theorem match_len {p s : List UInt8} (h : matchL p s = true) : dnsL s = true ∧ (dnsL p = true ∨ wildL p = true) ∧ (labs p).length = (labs s).length := by
  unfold matchL at h
  rw [Bool.and_eq_true] at h
  obtain ⟨h1, h2⟩ := h
  refine ⟨h1, ?_⟩
  split at h2
  · rename_i hp
    exact ⟨.inl hp, fold_labs _ _ _ _ h2⟩
  · rw [Bool.and_eq_true] at h2
    obtain ⟨hw, hf⟩ := h2
    refine ⟨.inr hw, ?_⟩
    obtain ⟨r, rfl, hr, hb, _, _⟩ := wild_split hw
    rw [hb] at hf
    have e1 : labs (42 :: 46 :: r) = [42] :: labs r := rfl
    have e2 := labs_cut s
    by_cases hd : (cutD 46 s).2.2 = true
    · rw [if_pos hd] at e2
      rw [e1, e2, List.length_cons, List.length_cons]
      have e3 : labs (cutD 46 s).2.1 = labs (behL s) := rfl
      rw [e3]
      exact congrArg (· + 1) (fold_labs r (behL s) [] [] hf)
    · have e3 : behL s = [] := cutD_no 46 s (by simpa using hd)
      rw [e3] at hf
      exact absurd (fold_nil hf) (dns_ne hr)
theorem match_more {p s : List UInt8} (h : matchL p s = true) : matchL p (120 :: 46 :: s) = false := by
  cases hq : matchL p (120 :: 46 :: s) with
  | false => rfl
  | true =>
    have h1 := (match_len h).2.2
    have h2 := (match_len hq).2.2
    have e1 : labs (120 :: 46 :: s) = [120] :: labs s := rfl
    rw [e1, List.length_cons] at h2
    omega
theorem match_less {p s : List UInt8} (h : matchL p s = true) (hd : 1 < (labs s).length) : matchL p (behL s) = false := by
  cases hq : matchL p (behL s) with
  | false => rfl
  | true =>
    have h1 := (match_len h).2.2
    have h2 := (match_len hq).2.2
    have e2 := labs_cut s
    by_cases hc : (cutD 46 s).2.2 = true
    · rw [if_pos hc] at e2
      have e3 : labs (cutD 46 s).2.1 = labs (behL s) := rfl
      rw [e2, e3, List.length_cons] at h1
      omega
    · rw [if_neg hc] at e2
      rw [e2] at hd
      simp at hd

/-- Labels, joined by dots again. -/
def joinL : List (List UInt8) → List UInt8
  | [] => []
  | u :: ws => ws.foldl (fun a v => a ++ [46] ++ v) u
theorem foldl_acc : ∀ (ws : List (List UInt8)) (x y : List UInt8), ws.foldl (fun a v => a ++ [46] ++ v) (x ++ y) = x ++ ws.foldl (fun a v => a ++ [46] ++ v) y
  | [], _, _ => rfl
  | u :: ws, x, y => by
    rw [List.foldl_cons, List.foldl_cons, ← foldl_acc ws x (y ++ [46] ++ u)]
    congr 1
    simp
theorem join_labsG : ∀ (l acc : List UInt8), joinL (labsG acc l) = acc ++ l
  | [], acc => by simp [labsG, joinL]
  | c :: r, acc => by
    rw [labsG]
    by_cases hc : c = 46
    · rw [if_pos hc]
      have ih := join_labsG r []
      obtain ⟨u, ws, hu⟩ : ∃ u ws, labsG [] r = u :: ws := by
        cases h : labsG [] r with
        | nil => exact absurd h (labsG_ne _ _)
        | cons u ws => exact ⟨u, ws, rfl⟩
      rw [hu] at ih ⊢
      show (u :: ws).foldl (fun a v => a ++ [46] ++ v) acc = acc ++ c :: r
      rw [List.foldl_cons, foldl_acc ws (acc ++ [46]) u]
      have e : ws.foldl (fun a v => a ++ [46] ++ v) u = r := ih
      rw [e, hc]
      simp
    · rw [if_neg hc, join_labsG r]; simp
theorem join_labs (l : List UInt8) : joinL (labs l) = l := join_labsG l []
theorem join_beh (l : List UInt8) : joinL ((labs l).drop 1) = behL l := by
  rw [labs_cut]
  by_cases hc : (cutD 46 l).2.2 = true
  · rw [if_pos hc]; exact join_labs _
  · rw [if_neg hc]
    exact (cutD_no 46 l (by simpa using hc)).symm

end Go.Proofs.YthnfhkmonfkceaaGreatDoor
