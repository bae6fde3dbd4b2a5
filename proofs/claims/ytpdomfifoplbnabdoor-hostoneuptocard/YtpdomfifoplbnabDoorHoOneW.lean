/-
  The statement HostOne: its walk.
-/
import Derived.Test.YtpdomfifoplbnabDoorHoMt
import Derived.Test.YtpdomfifoplbnabDoorHoW
namespace Go.Proofs.YtpdomfifoplbnabDoor
open Go.RowKit Go.Shelf Go.IntWalk
attribute [local go_sem] Oper.semAt_some

theorem tx_cat (a b : List UInt8) : tx a ++ tx b = tx (a ++ b) := by
  apply ByteArray.ext
  apply Array.ext'
  simp [tx]
theorem join_snoc (L : List (List UInt8)) (u : List UInt8) (h : L ≠ []) : joinL (L ++ [u]) = joinL L ++ [46] ++ u := by
  cases L with
  | nil => exact absurd rfl h
  | cons x r => show (r ++ [u]).foldl _ x = r.foldl _ x ++ [46] ++ u; rw [List.foldl_append]; rfl
theorem drop_one {l r : List (List UInt8)} {k : Nat} {x : List UInt8} (h : l.drop k = x :: r) : ∃ hk : k < l.length, l[k]'hk = x ∧ l.drop (k + 1) = r := by
  have hk : k < l.length := by
    rcases Nat.lt_or_ge k l.length with h' | h'
    · exact h'
    · rw [List.drop_eq_nil_of_le h'] at h; cases h
  rw [List.drop_eq_getElem_cons hk] at h
  exact ⟨hk, (List.cons.inj h).1, (List.cons.inj h).2⟩
/-- What the second loop has put together of the labels behind the first, k of all gone over. -/
def ORel (L : List (List UInt8)) (k : Nat) (rest : List UInt8) : Prop := rest = joinL ((L.drop 1).take (k - 1))
theorem orel_start (L : List (List UInt8)) : ORel L 0 [] := by unfold ORel; simp [joinL]
theorem orel_one (L : List (List UInt8)) (rest : List UInt8) (h : ORel L 0 rest) : rest = [] ∧ ORel L 1 [] := by unfold ORel at *; simp [joinL] at *; exact h
theorem orel_two (L : List (List UInt8)) (u rest : List UInt8) (hk : 1 < L.length) (hu : L[1]'hk = u) (h : ORel L 1 rest) : rest = [] ∧ ORel L 2 u := by
  unfold ORel at *
  refine ⟨by simpa [joinL] using h, ?_⟩
  rw [List.drop_eq_getElem_cons hk, hu]
  simp [joinL]
theorem orel_more (L : List (List UInt8)) (k : Nat) (u rest : List UInt8) (h1 : 1 < k) (hk : k < L.length) (hu : L[k]'hk = u) (h : ORel L k rest) : ORel L (k + 1) (rest ++ [46] ++ u) := by
  unfold ORel at *
  have hk2 : k - 1 < (L.drop 1).length := by rw [List.length_drop]; omega
  rw [show k + 1 - 1 = (k - 1) + 1 by omega, List.take_succ_eq_append_getElem hk2, join_snoc, ← h]
  · congr 1
    rw [List.getElem_drop, ← hu]
    congr 1
    omega
  · intro e
    have := congrArg List.length e
    rw [List.length_take, List.length_drop] at this
    simp at this
    omega
theorem orel_end (s : List UInt8) (rest : List UInt8) (h : ORel (labs s) (labs s).length rest) : rest = behL s := by
  unfold ORel at h
  rw [h, List.take_of_length_le (by rw [List.length_drop]; omega), join_beh]

def oneA (a : Nat) (n m : Int) (sp : ByteArray) : List (Nat × TypeId × Value) := [(a, 3, .int .i64 n), (a + 1, 3, .int .i64 m), (a + 1 + 1, 9, .string sp)]
def oneB (a b : Nat) (n m : Int) (sp : ByteArray) (rest : ByteArray) (f : Bool) (ss : ByteArray) : List (Nat × TypeId × Value) := [(a, 3, .int .i64 n), (a + 1, 3, .int .i64 m), (a + 1 + 1, 9, .string sp), (b, 9, .string rest), (b + 1, 4, .bool f), (b + 1 + 1, 9, .string ss)]

set_option maxRecDepth 100000 in
theorem one_leave (w W : World) (tmps : Array Value) (D1 D2 : Nat) (hne : D2 ≠ D1) (bx : List (Nat × TypeId × Value)) (h : BSt w bx [D2, D1] W) (ht : tmps[4]? = some (.bool true)) :
    LeavesInM Fence.wide 8 Tryd.prog Tryd.f3 tmps (fun e w' => e = .returned (.bool true) ∧ Below w.heap.size w w') [{ target := .collected D2, args := #[] }, { target := .collected D1, args := #[] }] .returning W := by
  have h1 := (h.dfr D2 (by simp)).2
  have k2 := h.take (by simpa using hne)
  have h2 := (k2.dfr D1 (by simp)).2
  have k3 := k2.take (by simp)
  refine ⟨by simp, .inl ⟨_, _, rfl, run_takeDeferred h1, by simp, .inl ⟨_, _, rfl, run_takeDeferred h2, ?_⟩⟩⟩
  exact ⟨.bool true, by simp [results, Tryd.results3, go_sem, ht, Array.getD_eq_getD_getElem?], rfl, k3.bel⟩
def Nvr1 (_ : World) : Prop := False

set_option maxRecDepth 100000 in
set_option maxHeartbeats 8000000 in
theorem one_in (p s : List UInt8) (hp : p.length ≤ 1048576) (hs : s.length ≤ 1048576) (m : Int) (w : World) (hm : ML w m) :
    CallsIn Fence.wide 8 Tryd.prog 3 #[.string (tx p), .string (tx s)] w fun e w' => e = .returned (.bool true) ∧ Below w.heap.size w w' := by
  have c1 := hide (fun W h => match_any p s hp hs m W h)
  have t1 := hide (fun W h => there_any m W h)
  cases hR : matchL p s with
  | false =>
    rw [hR] at c1
    have HM := hide hm
    clear hm
    refine callsIn_wide.2 ?_
    go_enter Tryd.func3, Tryd.ntmps3
    go_wp2_with (first | (go_at_call 4; refine (c1.out _ HM.out).mono ?_; rintro e w1 ⟨rfl, B1⟩; have hm1 := hide (HM.out.below B1)) | (go_at_call 5; refine (t1.out _ hm1.out).mono ?_; rintro e w2 ⟨rfl, B2⟩))
    go_ret
    exact ⟨rfl, B1.trans (B2.mono B1.size)⟩
  | true =>
    rw [hR] at c1
    obtain ⟨q1, q2, q3⟩ := match_len hR
    have hs253 : s.length ≤ 253 := by
      have h := q1
      unfold dnsL at h
      rw [Bool.and_eq_true, decide_eq_true_eq] at h
      exact h.1
    have c2 := hide (fun W h => dns_any s hs m W h)
    rw [q1] at c2
    have c3 := hide (fun W h => dns_any p hp m W h)
    have c4 := hide (fun W h => wild_any p hp m W h)
    have c5 : Hid (∀ W, ML W m → Calls Tryd.prog 4 #[.string (tx p), .string (tx (120 :: 46 :: s))] W fun e w' => e = .returned (.bool false) ∧ Below W.heap.size W w') := fun W h => by
      have := match_any p (120 :: 46 :: s) hp (by simp; omega) m W h
      rwa [match_more hR] at this
    refine callsIn_of_wp_marks Tryd.func3 rfl trivial ?_ rfl
    simp only [Tryd.ntmps3, List.size_toArray, List.length_cons, List.length_nil, Nat.reduceAdd, Nat.reduceSub, Array.replicate_succ, Array.replicate_zero, List.push_toArray, List.append_toArray, List.nil_append, List.cons_append]
    have hcat : (⟨#[120, 46]⟩ : ByteArray) ++ tx s = tx (120 :: 46 :: s) := tx_cat [120, 46] s
    have hsz := tx_size s
    have hn1 : ¬ 9223372036854775807 < 2 + (tx s).size := by omega
    have HM := hide hm
    cases hq : dnsL p with
    | true =>
      rw [hq] at c3
      gi_wp2_with (first
        | (refine ⟨trivial, ?_⟩; gi_at_call 4; refine (callsIn_wide.2 (c5.out _ hm3.out)).mono ?_; rintro e w4 ⟨rfl, B4⟩; have hm4 := hide (hm3.out.below B4))
        | (refine ⟨trivial, ?_⟩; gi_at_call 4; refine (callsIn_wide.2 (c1.out _ HM.out)).mono ?_; rintro e w1 ⟨rfl, B1⟩; have hm1 := hide (HM.out.below B1))
        | (refine ⟨trivial, ?_⟩; gi_at_call 6; refine (callsIn_wide.2 (c3.out _ hm2.out)).mono ?_; rintro e w3 ⟨rfl, B3⟩; have hm3 := hide (hm2.out.below B3))
        | (refine ⟨trivial, ?_⟩; gi_at_call 6; refine (callsIn_wide.2 (c2.out _ hm1.out)).mono ?_; rintro e w2 ⟨rfl, B2⟩; have hm2 := hide (hm1.out.below B2))
        | (refine ⟨trivial, ?_⟩; gi_at_call 8; refine (labels_in _ _ _).mono ?_; rintro e w' ⟨rfl, rfl⟩)
        | (refine ⟨trivial, ?_⟩))
      have BB : Below w.heap.size w w4 := by
        have s1 := B1.size
        have s2 := B2.size
        have s3 := B3.size
        exact ((B1.trans (B2.mono s1)).trans (B3.mono (by omega))).trans (B4.mono (by omega))
      rename_i K hK
      generalize w4 = V at BB ⊢
      have b0 := ((((BSt.start w).below BB).new 3 (.int .i64 0)).new 3 (.int .i64 0)).new 9 (.string (tx p))
      simp only [World.size_alloc, List.nil_append, List.cons_append] at b0
      generalize ((V.alloc (.cells #[.int .i64 0] 3)).alloc (.cells #[.int .i64 0] 3)).alloc (.cells #[.string (tx p)] 9) = W0 at b0 ⊢
      generalize V.heap.size = a at b0 ⊢
      have b1 : BSt w (oneA a 0 0 (tx p)) [] W0 := b0
      clear b0 BB
      have HQ3 := hide q3
      have HQ1 := hide q1
      have HR := hide hR
      have H253 := hide hs253
      have c6 := hide (fun W h => match_any p (behL s) hp (Nat.le_trans (cutD_rest 46 s).1 hs) m W h)
      clear q3 q1 hR hcat hn1 c1 c2 c3 c4 c5 q2 hq hs253
      generalize hA : Act.mk _ _ = A
      have HK : ∀ D W2, BSt w (oneA a ((labs p).length : Int) 0 (tx p)) [D] W2 → K { A with defers := { target := .collected D, args := #[] } :: A.defers } W2 := by
        intro D W2 hb
        subst hA
        refine hK _ _ ?_
        have HB := hide hb
        clear hb b1 hK
        gi_wp2_with (refine ⟨trivial, ?_⟩; gi_at_call 8; refine (labels_in _ _ _).mono ?_; rintro e w' ⟨rfl, rfl⟩)
        rename_i K2 hK2
        have i6 := ((HB.out.new 9 (.string ⟨#[]⟩)).new 4 (.bool true)).new 9 (.string (tx s))
        simp only [World.size_alloc, List.nil_append, List.cons_append, oneA] at i6
        generalize ((W2.alloc (.cells #[.string ⟨#[]⟩] 9)).alloc (.cells #[.bool true] 4)).alloc (.cells #[.string (tx s)] 9) = W6 at i6 ⊢
        generalize W2.heap.size = b at i6 ⊢
        have i7 : BSt w (oneB a b ((labs p).length : Int) 0 (tx p) (tx []) true (tx s)) [D] W6 := i6
        clear i6 HB
        generalize hA2 : Act.mk _ _ = A2
        refine range_enter rfl (by decide) (gf := 15) (lb := #[.pointer (some ⟨b + 1 + 1, 0, none⟩)]) (by subst hA2; rfl) trivial (enters_of Tryd.func15 (by kernel_rfl) rfl) ?_
        intro fn hfn
        generalize hrec : recOf fn _ _ _ _ _ = r
        have hDlt : D < W6.heap.size := (Array.getElem?_eq_some_iff.1 (i7.dfr D (by simp)).2).1
        have i8 := LSt.enter i7 (r .ready none)
        generalize (W6.alloc (.deferred (some []))).alloc (.loop (r .ready none)) = W8 at i8 ⊢
        have hDD : W6.heap.size ≠ D := by omega
        clear i7 hDlt
        generalize W6.heap.size + 1 = l at i8 ⊢
        generalize W6.heap.size = D2 at i8 hDD hrec ⊢
        obtain ⟨L, hL⟩ : ∃ L, labs s = L := ⟨_, rfl⟩
        have hLn : L.length ≤ 254 := by rw [← hL]; have h1 := labsG_len s []; have h2 := H253.out; unfold labs; omega
        refine (labels1_in 7 (by decide) l (b + 1 + 1) s hs m (fun ws W => ∃ (k : Nat) (rest : List UInt8) (f : Bool), k ≤ L.length ∧ rest.length ≤ k * 254 ∧ f = decide (k ≤ 1) ∧ LSt w (oneB a b ((labs p).length : Int) (k : Int) (tx p) (tx rest) f (tx s)) [D2, D] l (r .ready none) W ∧ L.drop k = ws ∧ ORel L k rest) Nvr1 W8
          ?_ (i8.st.get 5 rfl).cell ?_ ?_ ⟨0, [], true, Nat.zero_le _, Nat.zero_le _, rfl, i8, by rw [hL]; rfl, orel_start _⟩).mono ?_
        · rintro ws W ⟨_, _, _, _, _, _, h, _⟩
          exact hm.below h.st.bel
        · rintro ws W3 W4 ⟨k, rest, f, h1, h2, h3, h, h4⟩ hb
          exact ⟨k, rest, f, h1, h2, h3, h.below hb, h4⟩
        · rintro u ws W3 ⟨k, rest, f, h1, h2, hf, hI, hdr, hO⟩ hu
          obtain ⟨hk1, hk2, hk3⟩ := drop_one hdr
          have hu253 : u.length ≤ 253 := Nat.le_trans hu H253.out
          have hl := hI.loop
          rw [← hrec] at hl
          subst hA2
          refine range_round (a₁ := ?A2a) hfn hl rfl ?_ ?_
          rotate_left
          · intro K hK
            gi_wp2
            exact hK
          · rw [hrec]
            have HI := hide (hI.put (r .busy none))
            have cM := (HI.out.st.get 1 rfl).cell
            have fM := (HI.out.st.get 1 rfl).frozen
            have cR := (HI.out.st.get 3 rfl).cell
            have fR := (HI.out.st.get 3 rfl).frozen
            have cF := (HI.out.st.get 4 rfl).cell
            have fF := (HI.out.st.get 4 rfl).frozen
            have HO := hide hO
            have HK3 := hide hk3
            have HK2 := hide hk2
            have hkB : k ≤ 254 := by omega
            clear hl hI hrec i8 hK2 hdr hk2 hk3 hO
            generalize W3.putObj l (.loop (r .busy none)) = W9 at HI cM fM cR fR cF fF ⊢
            rcases (by omega : k = 0 ∨ k = 1 ∨ 1 < k) with rfl | rfl | hk
            · obtain ⟨hr0, ho1⟩ := orel_one L rest HO.out
              subst hr0
              replace HO := True.intro
              replace cM : W9.cell? ⟨a + 1, 0, none⟩ = some (.int .i64 0) := cM
              have z : LSt w (oneB a b ((labs p).length : Int) 1 (tx p) (tx []) f (tx s)) [D2, D] l (r .busy none) (W9.setCell ⟨a + 1, 0, none⟩ (.int .i64 1)) := HI.out.set 1 rfl _
              have f1 : f = decide (1 ≤ 1) := hf
              have Z := hide (And.intro z (And.intro ho1 f1))
              clear z ho1 f1 hf h2
              gi_wp2
              exact ⟨Z.out.1.loop, .inl ⟨rfl, 1, [], f, hk1, by simp, Z.out.2.2, Z.out.1.put _, HK3.out, Z.out.2.1⟩⟩
            · obtain ⟨hr0, ho1⟩ := orel_two L u rest hk1 HK2.out HO.out
              subst hr0
              replace HO := True.intro
              have hcat : tx [] ++ tx u = tx u := tx_cat [] u
              have hsz1 := tx_size u
              have hn1 : ¬ 9223372036854775807 < (tx []).size + (tx u).size := by rw [tx_size, tx_size]; simp; omega
              have z1 := HI.out.set 3 rfl (.string (tx u))
              have z2 := z1.set 4 rfl (.bool false)
              have z : LSt w (oneB a b ((labs p).length : Int) 2 (tx p) (tx u) false (tx s)) [D2, D] l (r .busy none) (((W9.setCell ⟨b, 0, none⟩ (.string (tx u))).setCell ⟨b + 1, 0, none⟩ (.bool false)).setCell ⟨a + 1, 0, none⟩ (.int .i64 2)) := z2.set 1 rfl _
              have cF1 : (W9.setCell ⟨b, 0, none⟩ (.string (tx u))).cell? ⟨b + 1, 0, none⟩ = some (.bool f) := (z1.st.get 4 rfl).cell
              have cM2 : ((W9.setCell ⟨b, 0, none⟩ (.string (tx u))).setCell ⟨b + 1, 0, none⟩ (.bool false)).cell? ⟨a + 1, 0, none⟩ = some (.int .i64 1) := (z2.st.get 1 rfl).cell
              have Z := hide (And.intro z ho1)
              clear z ho1 hf h2 hsz1 z1 z2
              gi_wp2
              exact ⟨Z.out.1.loop, .inl ⟨rfl, 2, u, false, hk1, by omega, rfl, Z.out.1.put _, HK3.out, Z.out.2⟩⟩
            · have ho1 := orel_more L k u rest hk hk1 HK2.out HO.out
              have hgt1 : (1 : Int) < (k : Int) := by omega
              have hgt0 : (0 : Int) < (k : Int) := by omega
              have hcat1 : tx rest ++ (⟨#[46]⟩ : ByteArray) = tx (rest ++ [46]) := tx_cat rest [46]
              have hcat2 : tx (rest ++ [46]) ++ tx u = tx (rest ++ [46] ++ u) := tx_cat _ u
              have hkm : k * 254 ≤ 64516 := by omega
              have hn1 : ¬ 9223372036854775807 < (tx rest).size + 1 := by rw [tx_size]; omega
              have hn2 : ¬ 9223372036854775807 < (tx (rest ++ [46])).size + (tx u).size := by rw [tx_size, tx_size]; simp; omega
              have e1 : ((k + 1 : Nat) : Int) = (k : Int) + 1 := by omega
              have hlen : (rest ++ [46] ++ u).length ≤ (k + 1) * 254 := by simp; omega
              have hf2 : false = decide (k + 1 ≤ 1) := (decide_eq_false (by omega)).symm
              generalize rest ++ [46] ++ u = r2 at hcat2 ho1 hlen
              generalize rest ++ [46] = r1 at hcat1 hcat2 hn2
              have z0 := HI.out.set 3 rfl (.string (tx r1))
              have z1 := z0.set 3 rfl (.string (tx r2))
              have z2 := z1.set 4 rfl (.bool false)
              have z : LSt w (oneB a b ((labs p).length : Int) ((k : Int) + 1) (tx p) (tx r2) false (tx s)) [D2, D] l (r .busy none) ((((W9.setCell ⟨b, 0, none⟩ (.string (tx r1))).setCell ⟨b, 0, none⟩ (.string (tx r2))).setCell ⟨b + 1, 0, none⟩ (.bool false)).setCell ⟨a + 1, 0, none⟩ (.int .i64 ((k : Int) + 1))) := z2.set 1 rfl _
              have cM0 : (W9.setCell ⟨b, 0, none⟩ (.string (tx r1))).cell? ⟨a + 1, 0, none⟩ = some (.int .i64 k) := (z0.st.get 1 rfl).cell
              have cR0 : (W9.setCell ⟨b, 0, none⟩ (.string (tx r1))).cell? ⟨b, 0, none⟩ = some (.string (tx r1)) := (z0.st.get 3 rfl).cell
              have cF1 : ((W9.setCell ⟨b, 0, none⟩ (.string (tx r1))).setCell ⟨b, 0, none⟩ (.string (tx r2))).cell? ⟨b + 1, 0, none⟩ = some (.bool f) := (z1.st.get 4 rfl).cell
              have cM2 : (((W9.setCell ⟨b, 0, none⟩ (.string (tx r1))).setCell ⟨b, 0, none⟩ (.string (tx r2))).setCell ⟨b + 1, 0, none⟩ (.bool false)).cell? ⟨a + 1, 0, none⟩ = some (.int .i64 k) := (z2.st.get 1 rfl).cell
              have Z := hide (And.intro z (And.intro ho1 (And.intro hlen (And.intro hf2 e1))))
              clear z ho1 hf h2 z0 z1 z2 hlen hf2 e1
              gi_wp2
              obtain ⟨y1, y2, y3, y4, y5⟩ := Z.out
              exact ⟨y1.loop, .inl ⟨rfl, k + 1, r2, false, hk1, y3, y4, by rw [y5]; exact y1.put _, HK3.out, y2⟩⟩
        · rintro e W' ⟨⟨v, rfl⟩, ⟨k, rest, f, h1, h2, hf, hI, hdr, hO⟩ | hI⟩
          · have hl := hI.loop
            rw [← hrec] at hl
            refine range_done hl ?_
            rw [hrec]
            have H2 := hide (hI.put (r .exhausted none)).st
            obtain rfl : k = L.length := by have := List.drop_eq_nil_iff.1 hdr; omega
            have hrb : rest = behL s := orel_end s rest (by rw [hL]; exact hO)
            subst hrb
            have cN := (H2.out.get 0 rfl).cell
            have cM := (H2.out.get 1 rfl).cell
            have cR := (H2.out.get 3 rfl).cell
            have cF := (H2.out.get 4 rfl).cell
            have heq : (((labs p).length : Int) == (L.length : Int)) = true := by rw [HQ3.out, hL]; simp
            have hml := hide (fun h : 1 < L.length => match_less HR.out (by rw [hL]; exact h))
            subst hA2
            refine hK2 _ _ ?_
            clear hI hl hrec i8 hdr hO hK2
            generalize W'.putObj l (.loop (r .exhausted none)) = W7 at H2 cN cM cR cF ⊢
            by_cases hL1 : L.length ≤ 1
            · obtain rfl : f = true := by rw [hf]; exact decide_eq_true hL1
              clear hf h2
              gi_wp2_with (first
                | (refine ⟨trivial, ?_⟩; gi_at_call 5; refine (callsIn_wide.2 (t1.out _ (hm.below H2.out.bel))).mono ?_; rintro e W9 ⟨rfl, B9⟩; have H3 := hide (H2.out.below B9))
                | (refine ⟨trivial, ?_⟩))
              exact one_leave w _ _ D D2 hDD _ H3.out rfl
            · obtain rfl : f = false := by rw [hf]; exact decide_eq_false hL1
              have hmf := hml.out (by omega)
              rw [hmf] at c6
              clear hf h2
              gi_wp2_with (first
                | (refine ⟨trivial, ?_⟩; gi_at_call 5; refine (callsIn_wide.2 (t1.out _ (hm.below H4.out.bel))).mono ?_; rintro e W10 ⟨rfl, B10⟩; have H5 := hide (H4.out.below B10))
                | (refine ⟨trivial, ?_⟩; gi_at_call 4; refine (callsIn_wide.2 (c6.out _ (hm.below H2.out.bel))).mono ?_; rintro e W9 ⟨rfl, B9⟩; have H4 := hide (H2.out.below B9)))
              exact one_leave w _ _ D D2 hDD _ H5.out rfl
          · exact hI.elim
      refine range_enter rfl (by decide) (gf := 15) (lb := #[.pointer (some ⟨a + 1 + 1, 0, none⟩)]) (by subst hA; rfl) trivial (enters_of Tryd.func15 (by kernel_rfl) rfl) ?_
      intro fn hfn
      generalize hrec : recOf fn _ _ _ _ _ = r
      have i6 := LSt.enter b1 (r .ready none)
      generalize (W0.alloc (.deferred (some []))).alloc (.loop (r .ready none)) = W8 at i6 ⊢
      generalize W0.heap.size + 1 = l at i6 ⊢
      generalize W0.heap.size = D at i6 hrec ⊢
      have hpl : (labs p).length ≤ 1048577 := by have := labsG_len p []; unfold labs; omega
      refine (labels1_in 7 (by decide) l (a + 1 + 1) p hp m (fun ws W => ∃ k : Nat, LSt w (oneA a (k : Int) 0 (tx p)) [D] l (r .ready none) W ∧ k + ws.length = (labs p).length) Nvr1 W8
        ?_ (i6.st.get 2 rfl).cell ?_ ?_ ⟨0, i6, by omega⟩).mono ?_
      · rintro ws W ⟨_, h, _⟩
        exact hm.below h.st.bel
      · rintro ws W3 W4 ⟨k, h, h4⟩ hb
        exact ⟨k, h.below hb, h4⟩
      · rintro u ws W3 ⟨k, hI, hks⟩ hu
        have hl := hI.loop
        rw [← hrec] at hl
        subst hA
        refine range_round (a₁ := ?A1a) hfn hl rfl ?_ ?_
        rotate_left
        · intro K hK
          gi_wp2
          exact hK
        · rw [hrec]
          have HI := hide (hI.put (r .busy none))
          have cN := (HI.out.st.get 0 rfl).cell
          have fN := (HI.out.st.get 0 rfl).frozen
          simp only [List.length_cons] at hks
          have hkB : k ≤ 1048577 := by omega
          have Hks := hide hks
          clear hl hI hrec i6 HK hK b1 hks
          generalize W3.putObj l (.loop (r .busy none)) = W9 at HI cN fN ⊢
          have e1 : ((k + 1 : Nat) : Int) = (k : Int) + 1 := by omega
          have z : LSt w (oneA a ((k : Int) + 1) 0 (tx p)) [D] l (r .busy none) (W9.setCell ⟨a, 0, none⟩ (.int .i64 ((k : Int) + 1))) := HI.out.set 0 rfl _
          have Z := hide (And.intro z e1)
          clear z e1
          gi_wp2
          obtain ⟨y1, y2⟩ := Z.out
          exact ⟨y1.loop, .inl ⟨rfl, k + 1, by rw [y2]; exact y1.put _, by have := Hks.out; omega⟩⟩
      · rintro e W' ⟨⟨v, rfl⟩, ⟨k, hI, hks⟩ | hI⟩
        · have hl := hI.loop
          rw [← hrec] at hl
          refine range_done hl ?_
          rw [hrec]
          have h2 := (hI.put (r .exhausted none)).st
          simp only [List.length_nil, Nat.add_zero] at hks
          rw [hks] at h2
          exact HK _ _ h2
        · exact hI.elim
    | false =>
      have q4 : wildL p = true := by
        rcases q2 with h | h
        · rw [hq] at h; cases h
        · exact h
      rw [hq] at c3
      rw [q4] at c4
      gi_wp2_with (first
        | (refine ⟨trivial, ?_⟩; gi_at_call 4; refine (callsIn_wide.2 (c5.out _ hm4.out)).mono ?_; rintro e w5 ⟨rfl, B5⟩)
        | (refine ⟨trivial, ?_⟩; gi_at_call 4; refine (callsIn_wide.2 (c1.out _ HM.out)).mono ?_; rintro e w1 ⟨rfl, B1⟩; have hm1 := hide (HM.out.below B1))
        | (refine ⟨trivial, ?_⟩; gi_at_call 6; refine (callsIn_wide.2 (c3.out _ hm2.out)).mono ?_; rintro e w3 ⟨rfl, B3⟩; have hm3 := hide (hm2.out.below B3))
        | (refine ⟨trivial, ?_⟩; gi_at_call 6; refine (callsIn_wide.2 (c2.out _ hm1.out)).mono ?_; rintro e w2 ⟨rfl, B2⟩; have hm2 := hide (hm1.out.below B2))
        | (refine ⟨trivial, ?_⟩; gi_at_call 7; refine (callsIn_wide.2 (c4.out _ hm3.out)).mono ?_; rintro e w4 ⟨rfl, B4⟩; have hm4 := hide (hm3.out.below B4))
        | (refine ⟨trivial, ?_⟩; gi_at_call 8; refine (labels_in _ _ _).mono ?_; rintro e w' ⟨rfl, rfl⟩)
        | (refine ⟨trivial, ?_⟩))
      have BB : Below w.heap.size w w5 := by
        have s1 := B1.size
        have s2 := B2.size
        have s3 := B3.size
        have s4 := B4.size
        exact (((B1.trans (B2.mono s1)).trans (B3.mono (by omega))).trans (B4.mono (by omega))).trans (B5.mono (by omega))
      rename_i K hK
      generalize w5 = V at BB ⊢
      have b0 := ((((BSt.start w).below BB).new 3 (.int .i64 0)).new 3 (.int .i64 0)).new 9 (.string (tx p))
      simp only [World.size_alloc, List.nil_append, List.cons_append] at b0
      generalize ((V.alloc (.cells #[.int .i64 0] 3)).alloc (.cells #[.int .i64 0] 3)).alloc (.cells #[.string (tx p)] 9) = W0 at b0 ⊢
      generalize V.heap.size = a at b0 ⊢
      have b1 : BSt w (oneA a 0 0 (tx p)) [] W0 := b0
      clear b0 BB
      have HQ3 := hide q3
      have HQ1 := hide q1
      have HR := hide hR
      have H253 := hide hs253
      have c6 := hide (fun W h => match_any p (behL s) hp (Nat.le_trans (cutD_rest 46 s).1 hs) m W h)
      clear q3 q1 hR hcat hn1 c1 c2 c3 c4 c5 q2 hq hs253
      generalize hA : Act.mk _ _ = A
      have HK : ∀ D W2, BSt w (oneA a ((labs p).length : Int) 0 (tx p)) [D] W2 → K { A with defers := { target := .collected D, args := #[] } :: A.defers } W2 := by
        intro D W2 hb
        subst hA
        refine hK _ _ ?_
        have HB := hide hb
        clear hb b1 hK
        gi_wp2_with (refine ⟨trivial, ?_⟩; gi_at_call 8; refine (labels_in _ _ _).mono ?_; rintro e w' ⟨rfl, rfl⟩)
        rename_i K2 hK2
        have i6 := ((HB.out.new 9 (.string ⟨#[]⟩)).new 4 (.bool true)).new 9 (.string (tx s))
        simp only [World.size_alloc, List.nil_append, List.cons_append, oneA] at i6
        generalize ((W2.alloc (.cells #[.string ⟨#[]⟩] 9)).alloc (.cells #[.bool true] 4)).alloc (.cells #[.string (tx s)] 9) = W6 at i6 ⊢
        generalize W2.heap.size = b at i6 ⊢
        have i7 : BSt w (oneB a b ((labs p).length : Int) 0 (tx p) (tx []) true (tx s)) [D] W6 := i6
        clear i6 HB
        generalize hA2 : Act.mk _ _ = A2
        refine range_enter rfl (by decide) (gf := 15) (lb := #[.pointer (some ⟨b + 1 + 1, 0, none⟩)]) (by subst hA2; rfl) trivial (enters_of Tryd.func15 (by kernel_rfl) rfl) ?_
        intro fn hfn
        generalize hrec : recOf fn _ _ _ _ _ = r
        have hDlt : D < W6.heap.size := (Array.getElem?_eq_some_iff.1 (i7.dfr D (by simp)).2).1
        have i8 := LSt.enter i7 (r .ready none)
        generalize (W6.alloc (.deferred (some []))).alloc (.loop (r .ready none)) = W8 at i8 ⊢
        have hDD : W6.heap.size ≠ D := by omega
        clear i7 hDlt
        generalize W6.heap.size + 1 = l at i8 ⊢
        generalize W6.heap.size = D2 at i8 hDD hrec ⊢
        obtain ⟨L, hL⟩ : ∃ L, labs s = L := ⟨_, rfl⟩
        have hLn : L.length ≤ 254 := by rw [← hL]; have h1 := labsG_len s []; have h2 := H253.out; unfold labs; omega
        refine (labels1_in 7 (by decide) l (b + 1 + 1) s hs m (fun ws W => ∃ (k : Nat) (rest : List UInt8) (f : Bool), k ≤ L.length ∧ rest.length ≤ k * 254 ∧ f = decide (k ≤ 1) ∧ LSt w (oneB a b ((labs p).length : Int) (k : Int) (tx p) (tx rest) f (tx s)) [D2, D] l (r .ready none) W ∧ L.drop k = ws ∧ ORel L k rest) Nvr1 W8
          ?_ (i8.st.get 5 rfl).cell ?_ ?_ ⟨0, [], true, Nat.zero_le _, Nat.zero_le _, rfl, i8, by rw [hL]; rfl, orel_start _⟩).mono ?_
        · rintro ws W ⟨_, _, _, _, _, _, h, _⟩
          exact hm.below h.st.bel
        · rintro ws W3 W4 ⟨k, rest, f, h1, h2, h3, h, h4⟩ hb
          exact ⟨k, rest, f, h1, h2, h3, h.below hb, h4⟩
        · rintro u ws W3 ⟨k, rest, f, h1, h2, hf, hI, hdr, hO⟩ hu
          obtain ⟨hk1, hk2, hk3⟩ := drop_one hdr
          have hu253 : u.length ≤ 253 := Nat.le_trans hu H253.out
          have hl := hI.loop
          rw [← hrec] at hl
          subst hA2
          refine range_round (a₁ := ?A2b) hfn hl rfl ?_ ?_
          rotate_left
          · intro K hK
            gi_wp2
            exact hK
          · rw [hrec]
            have HI := hide (hI.put (r .busy none))
            have cM := (HI.out.st.get 1 rfl).cell
            have fM := (HI.out.st.get 1 rfl).frozen
            have cR := (HI.out.st.get 3 rfl).cell
            have fR := (HI.out.st.get 3 rfl).frozen
            have cF := (HI.out.st.get 4 rfl).cell
            have fF := (HI.out.st.get 4 rfl).frozen
            have HO := hide hO
            have HK3 := hide hk3
            have HK2 := hide hk2
            have hkB : k ≤ 254 := by omega
            clear hl hI hrec i8 hK2 hdr hk2 hk3 hO
            generalize W3.putObj l (.loop (r .busy none)) = W9 at HI cM fM cR fR cF fF ⊢
            rcases (by omega : k = 0 ∨ k = 1 ∨ 1 < k) with rfl | rfl | hk
            · obtain ⟨hr0, ho1⟩ := orel_one L rest HO.out
              subst hr0
              replace HO := True.intro
              replace cM : W9.cell? ⟨a + 1, 0, none⟩ = some (.int .i64 0) := cM
              have z : LSt w (oneB a b ((labs p).length : Int) 1 (tx p) (tx []) f (tx s)) [D2, D] l (r .busy none) (W9.setCell ⟨a + 1, 0, none⟩ (.int .i64 1)) := HI.out.set 1 rfl _
              have f1 : f = decide (1 ≤ 1) := hf
              have Z := hide (And.intro z (And.intro ho1 f1))
              clear z ho1 f1 hf h2
              gi_wp2
              exact ⟨Z.out.1.loop, .inl ⟨rfl, 1, [], f, hk1, by simp, Z.out.2.2, Z.out.1.put _, HK3.out, Z.out.2.1⟩⟩
            · obtain ⟨hr0, ho1⟩ := orel_two L u rest hk1 HK2.out HO.out
              subst hr0
              replace HO := True.intro
              have hcat : tx [] ++ tx u = tx u := tx_cat [] u
              have hsz1 := tx_size u
              have hn1 : ¬ 9223372036854775807 < (tx []).size + (tx u).size := by rw [tx_size, tx_size]; simp; omega
              have z1 := HI.out.set 3 rfl (.string (tx u))
              have z2 := z1.set 4 rfl (.bool false)
              have z : LSt w (oneB a b ((labs p).length : Int) 2 (tx p) (tx u) false (tx s)) [D2, D] l (r .busy none) (((W9.setCell ⟨b, 0, none⟩ (.string (tx u))).setCell ⟨b + 1, 0, none⟩ (.bool false)).setCell ⟨a + 1, 0, none⟩ (.int .i64 2)) := z2.set 1 rfl _
              have cF1 : (W9.setCell ⟨b, 0, none⟩ (.string (tx u))).cell? ⟨b + 1, 0, none⟩ = some (.bool f) := (z1.st.get 4 rfl).cell
              have cM2 : ((W9.setCell ⟨b, 0, none⟩ (.string (tx u))).setCell ⟨b + 1, 0, none⟩ (.bool false)).cell? ⟨a + 1, 0, none⟩ = some (.int .i64 1) := (z2.st.get 1 rfl).cell
              have Z := hide (And.intro z ho1)
              clear z ho1 hf h2 hsz1 z1 z2
              gi_wp2
              exact ⟨Z.out.1.loop, .inl ⟨rfl, 2, u, false, hk1, by omega, rfl, Z.out.1.put _, HK3.out, Z.out.2⟩⟩
            · have ho1 := orel_more L k u rest hk hk1 HK2.out HO.out
              have hgt1 : (1 : Int) < (k : Int) := by omega
              have hgt0 : (0 : Int) < (k : Int) := by omega
              have hcat1 : tx rest ++ (⟨#[46]⟩ : ByteArray) = tx (rest ++ [46]) := tx_cat rest [46]
              have hcat2 : tx (rest ++ [46]) ++ tx u = tx (rest ++ [46] ++ u) := tx_cat _ u
              have hkm : k * 254 ≤ 64516 := by omega
              have hn1 : ¬ 9223372036854775807 < (tx rest).size + 1 := by rw [tx_size]; omega
              have hn2 : ¬ 9223372036854775807 < (tx (rest ++ [46])).size + (tx u).size := by rw [tx_size, tx_size]; simp; omega
              have e1 : ((k + 1 : Nat) : Int) = (k : Int) + 1 := by omega
              have hlen : (rest ++ [46] ++ u).length ≤ (k + 1) * 254 := by simp; omega
              have hf2 : false = decide (k + 1 ≤ 1) := (decide_eq_false (by omega)).symm
              generalize rest ++ [46] ++ u = r2 at hcat2 ho1 hlen
              generalize rest ++ [46] = r1 at hcat1 hcat2 hn2
              have z0 := HI.out.set 3 rfl (.string (tx r1))
              have z1 := z0.set 3 rfl (.string (tx r2))
              have z2 := z1.set 4 rfl (.bool false)
              have z : LSt w (oneB a b ((labs p).length : Int) ((k : Int) + 1) (tx p) (tx r2) false (tx s)) [D2, D] l (r .busy none) ((((W9.setCell ⟨b, 0, none⟩ (.string (tx r1))).setCell ⟨b, 0, none⟩ (.string (tx r2))).setCell ⟨b + 1, 0, none⟩ (.bool false)).setCell ⟨a + 1, 0, none⟩ (.int .i64 ((k : Int) + 1))) := z2.set 1 rfl _
              have cM0 : (W9.setCell ⟨b, 0, none⟩ (.string (tx r1))).cell? ⟨a + 1, 0, none⟩ = some (.int .i64 k) := (z0.st.get 1 rfl).cell
              have cR0 : (W9.setCell ⟨b, 0, none⟩ (.string (tx r1))).cell? ⟨b, 0, none⟩ = some (.string (tx r1)) := (z0.st.get 3 rfl).cell
              have cF1 : ((W9.setCell ⟨b, 0, none⟩ (.string (tx r1))).setCell ⟨b, 0, none⟩ (.string (tx r2))).cell? ⟨b + 1, 0, none⟩ = some (.bool f) := (z1.st.get 4 rfl).cell
              have cM2 : (((W9.setCell ⟨b, 0, none⟩ (.string (tx r1))).setCell ⟨b, 0, none⟩ (.string (tx r2))).setCell ⟨b + 1, 0, none⟩ (.bool false)).cell? ⟨a + 1, 0, none⟩ = some (.int .i64 k) := (z2.st.get 1 rfl).cell
              have Z := hide (And.intro z (And.intro ho1 (And.intro hlen (And.intro hf2 e1))))
              clear z ho1 hf h2 z0 z1 z2 hlen hf2 e1
              gi_wp2
              obtain ⟨y1, y2, y3, y4, y5⟩ := Z.out
              exact ⟨y1.loop, .inl ⟨rfl, k + 1, r2, false, hk1, y3, y4, by rw [y5]; exact y1.put _, HK3.out, y2⟩⟩
        · rintro e W' ⟨⟨v, rfl⟩, ⟨k, rest, f, h1, h2, hf, hI, hdr, hO⟩ | hI⟩
          · have hl := hI.loop
            rw [← hrec] at hl
            refine range_done hl ?_
            rw [hrec]
            have H2 := hide (hI.put (r .exhausted none)).st
            obtain rfl : k = L.length := by have := List.drop_eq_nil_iff.1 hdr; omega
            have hrb : rest = behL s := orel_end s rest (by rw [hL]; exact hO)
            subst hrb
            have cN := (H2.out.get 0 rfl).cell
            have cM := (H2.out.get 1 rfl).cell
            have cR := (H2.out.get 3 rfl).cell
            have cF := (H2.out.get 4 rfl).cell
            have heq : (((labs p).length : Int) == (L.length : Int)) = true := by rw [HQ3.out, hL]; simp
            have hml := hide (fun h : 1 < L.length => match_less HR.out (by rw [hL]; exact h))
            subst hA2
            refine hK2 _ _ ?_
            clear hI hl hrec i8 hdr hO hK2
            generalize W'.putObj l (.loop (r .exhausted none)) = W7 at H2 cN cM cR cF ⊢
            by_cases hL1 : L.length ≤ 1
            · obtain rfl : f = true := by rw [hf]; exact decide_eq_true hL1
              clear hf h2
              gi_wp2_with (first
                | (refine ⟨trivial, ?_⟩; gi_at_call 5; refine (callsIn_wide.2 (t1.out _ (hm.below H2.out.bel))).mono ?_; rintro e W9 ⟨rfl, B9⟩; have H3 := hide (H2.out.below B9))
                | (refine ⟨trivial, ?_⟩))
              exact one_leave w _ _ D D2 hDD _ H3.out rfl
            · obtain rfl : f = false := by rw [hf]; exact decide_eq_false hL1
              have hmf := hml.out (by omega)
              rw [hmf] at c6
              clear hf h2
              gi_wp2_with (first
                | (refine ⟨trivial, ?_⟩; gi_at_call 5; refine (callsIn_wide.2 (t1.out _ (hm.below H4.out.bel))).mono ?_; rintro e W10 ⟨rfl, B10⟩; have H5 := hide (H4.out.below B10))
                | (refine ⟨trivial, ?_⟩; gi_at_call 4; refine (callsIn_wide.2 (c6.out _ (hm.below H2.out.bel))).mono ?_; rintro e W9 ⟨rfl, B9⟩; have H4 := hide (H2.out.below B9)))
              exact one_leave w _ _ D D2 hDD _ H5.out rfl
          · exact hI.elim
      refine range_enter rfl (by decide) (gf := 15) (lb := #[.pointer (some ⟨a + 1 + 1, 0, none⟩)]) (by subst hA; rfl) trivial (enters_of Tryd.func15 (by kernel_rfl) rfl) ?_
      intro fn hfn
      generalize hrec : recOf fn _ _ _ _ _ = r
      have i6 := LSt.enter b1 (r .ready none)
      generalize (W0.alloc (.deferred (some []))).alloc (.loop (r .ready none)) = W8 at i6 ⊢
      generalize W0.heap.size + 1 = l at i6 ⊢
      generalize W0.heap.size = D at i6 hrec ⊢
      have hpl : (labs p).length ≤ 1048577 := by have := labsG_len p []; unfold labs; omega
      refine (labels1_in 7 (by decide) l (a + 1 + 1) p hp m (fun ws W => ∃ k : Nat, LSt w (oneA a (k : Int) 0 (tx p)) [D] l (r .ready none) W ∧ k + ws.length = (labs p).length) Nvr1 W8
        ?_ (i6.st.get 2 rfl).cell ?_ ?_ ⟨0, i6, by omega⟩).mono ?_
      · rintro ws W ⟨_, h, _⟩
        exact hm.below h.st.bel
      · rintro ws W3 W4 ⟨k, h, h4⟩ hb
        exact ⟨k, h.below hb, h4⟩
      · rintro u ws W3 ⟨k, hI, hks⟩ hu
        have hl := hI.loop
        rw [← hrec] at hl
        subst hA
        refine range_round (a₁ := ?A1b) hfn hl rfl ?_ ?_
        rotate_left
        · intro K hK
          gi_wp2
          exact hK
        · rw [hrec]
          have HI := hide (hI.put (r .busy none))
          have cN := (HI.out.st.get 0 rfl).cell
          have fN := (HI.out.st.get 0 rfl).frozen
          simp only [List.length_cons] at hks
          have hkB : k ≤ 1048577 := by omega
          have Hks := hide hks
          clear hl hI hrec i6 HK hK b1 hks
          generalize W3.putObj l (.loop (r .busy none)) = W9 at HI cN fN ⊢
          have e1 : ((k + 1 : Nat) : Int) = (k : Int) + 1 := by omega
          have z : LSt w (oneA a ((k : Int) + 1) 0 (tx p)) [D] l (r .busy none) (W9.setCell ⟨a, 0, none⟩ (.int .i64 ((k : Int) + 1))) := HI.out.set 0 rfl _
          have Z := hide (And.intro z e1)
          clear z e1
          gi_wp2
          obtain ⟨y1, y2⟩ := Z.out
          exact ⟨y1.loop, .inl ⟨rfl, k + 1, by rw [y2]; exact y1.put _, by have := Hks.out; omega⟩⟩
      · rintro e W' ⟨⟨v, rfl⟩, ⟨k, hI, hks⟩ | hI⟩
        · have hl := hI.loop
          rw [← hrec] at hl
          refine range_done hl ?_
          rw [hrec]
          have h2 := (hI.put (r .exhausted none)).st
          simp only [List.length_nil, Nat.add_zero] at hks
          rw [hks] at h2
          exact HK _ _ h2
        · exact hI.elim

theorem one_walk (p s : List UInt8) (hp : p.length ≤ 1048576) (hs : s.length ≤ 1048576) (m : Int) (w : World) (hm : ML w m) :
    Calls Tryd.prog 3 #[.string (tx p), .string (tx s)] w fun e w' => e = .returned (.bool true) ∧ Below w.heap.size w w' := callsIn_wide.1 (one_in p s hp hs m w hm)

end Go.Proofs.YtpdomfifoplbnabDoor
