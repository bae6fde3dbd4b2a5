/-
  oid.Decode reads a content as decS says.
-/
import Derived.Test.YtklchpdpooikdaaGreatDoorXNumbersToQRound
namespace Go.Proofs.YtklchpdpooikdaaGreatDoor
open Go.RowKit Go.Shelf Go.IntWalk
attribute [local go_sem] Oper.semAt_some setCell_qN alloc_qN

theorem DSt.box {w : World} {ao : Option Addr} {n cap : Nat} {lp : Loop} {acc : List Int} {e : Int} {v : Value} {W w2 : World} (h : DSt w ao n cap lp acc e v W) (o : Obj) (hg : (W.alloc o).grownBy w2 v.ownBlock) : Boxed w2 (w.heap.size + 1) 114 v :=
  (h.arcs.alloc o).kept hg (h.arcs.not_row (by decide) h.row)

/-- The results are written as they are. -/
theorem DSt.again {w : World} {ao : Option Addr} {n cap : Nat} {lp : Loop} {acc : List Int} {e : Int} {v : Value} {W : World} (h : DSt w ao n cap lp acc e v W) (x : Int) :
    DSt w ao n cap lp acc x v ((W.setCell ⟨w.heap.size + 1, 0, none⟩ v).setCell ⟨w.heap.size + 2, 0, none⟩ (.int .i64 x)) := by
  have a1 := h.arcs.set v
  have e1 := h.er.other (B' := w.heap.size + 1) (by omega) v
  have r1 := h.row.kept (grownBy_setCell' W (w.heap.size + 1) v) (.inr fun he => h.arcs.not_row (by decide) h.row he.symm)
  have r2 := r1.kept (grownBy_setCell' _ (w.heap.size + 2) (.int .i64 x)) (.inr fun he => e1.not_row (by decide) r1 he.symm)
  refine ⟨?_, ?_, (h.b.other (by omega) _).other (by omega) _, a1.other (by omega) _, e1.set _, (h.b2.other (by omega) _).other (by omega) _, r2, (h.bel.setCell (by simp) _).setCell (by simp) _⟩
  · rw [Below.heap_setCell _ _ _ _ (by simp), Below.heap_setCell _ _ _ _ (by simp)]; exact h.loop
  · rw [Below.heap_setCell _ _ _ _ (by simp), Below.heap_setCell _ _ _ _ (by simp)]; exact h.dfr

/-- The arcs acc are what the numbers ahead of the place p stand for. -/
def dRel (xs acc : List Int) (p : Nat) : Prop := (p = 0 ∧ acc = []) ∨ (0 < p ∧ decS xs = decG xs acc p ∧ acc.length ≤ 20 ∧ (acc.length = 20 → p = xs.length))

set_option maxRecDepth 100000 in
set_option maxHeartbeats 40000000 in
theorem decode_in (ao : Option Addr) (n cap : Nat) (xs : List Int) (w : World) (hs : Src w ao n cap xs) (hN : n ≤ 140737488355328) :
    CallsIn Fence.wide 4 Tryz.prog 150 #[.slice ao n cap] w fun e w' => ∃ ao' L c', e = .returned (.tuple #[.slice ao' L c', .int .i64 (decS xs).2]) ∧ OwnI w' w.heap.size (.slice ao' L c') (decS xs).1 ∧ Below w.heap.size w w' := by
  have HL := hide hs.hlen
  have hmf : ∀ (fn : Fn) (first cap : Array Value) (w : World), (Instr.makeFunc fn first cap).run Tryz.prog w = .ok (.func fn first cap) w := fun _ _ _ _ => rfl
  refine callsIn_of_wp_marks Tryz.func150 rfl trivial ?_ rfl
  simp only [Tryz.ntmps150, List.size_toArray, List.length_cons, List.length_nil, Nat.reduceAdd, Nat.reduceSub, Array.replicate_succ, Array.replicate_zero, List.push_toArray, List.append_toArray, List.nil_append, List.cons_append]
  by_cases h0 : n = 0
  · subst h0
    have hd : Hid (decS xs = ([], 10)) := by
      unfold Hid
      have h1 : xs = [] := List.eq_nil_of_length_eq_zero HL.out
      subst h1
      rfl
    gi_wp2
    refine ⟨by simp, .inr ⟨by simp [Fence.wide], .func 168, _, 168, #[.pointer (some ⟨w.heap.size + 1, 0, none⟩), .pointer (some ⟨w.heap.size + 1 + 1, 0, none⟩)], rfl, by simp [invoke, go_sem], fun _ _ => trivial, (decode1_idle 3 _ _ _).mono ?_⟩⟩
    rintro e u w' ⟨rfl, rfl, rfl⟩
    refine ⟨.tuple #[.slice none 0 0, .int .i64 10], by simp [results, Tryz.results150, go_sem], none, 0, 0, by rw [hd.out], by rw [hd.out]; exact OwnI.nil _ _, (((Below.refl _ w).alloc (Nat.le_refl _) _).alloc (by simp) _).alloc (by simp; omega) _⟩
  · have h0b : ((n : Int) == 0) = false := by simp; omega
    gi_wp2_with (refine ⟨trivial, ?_⟩; gi_at_call 169; refine (numbers_in _ _ _ _ _).mono ?_; rintro e w' ⟨rfl, rfl⟩)
    obtain ⟨W0, hW0⟩ : ∃ W0, (((w.alloc (.cells #[.slice ao n cap] 64)).alloc (.cells #[.slice none 0 0] 114)).alloc (.cells #[.int .i64 0] 24)).alloc (.cells #[.slice ao n cap] 64) = W0 := ⟨_, rfl⟩
    have b0 := (((Boxed.new w 64 (.slice ao n cap)).alloc (.cells #[.slice none 0 0] 114)).alloc (.cells #[.int .i64 0] 24)).alloc (.cells #[.slice ao n cap] 64)
    have b1 := ((Boxed.new (w.alloc (.cells #[.slice ao n cap] 64)) 114 (.slice none 0 0)).alloc (.cells #[.int .i64 0] 24)).alloc (.cells #[.slice ao n cap] 64)
    have b2 := (Boxed.new ((w.alloc (.cells #[.slice ao n cap] 64)).alloc (.cells #[.slice none 0 0] 114)) 24 (.int .i64 0)).alloc (.cells #[.slice ao n cap] 64)
    have b3 := Boxed.new (((w.alloc (.cells #[.slice ao n cap] 64)).alloc (.cells #[.slice none 0 0] 114)).alloc (.cells #[.int .i64 0] 24)) 64 (.slice ao n cap)
    have hB0 : Below w.heap.size w ((((w.alloc (.cells #[.slice ao n cap] 64)).alloc (.cells #[.slice none 0 0] 114)).alloc (.cells #[.int .i64 0] 24)).alloc (.cells #[.slice ao n cap] 64)) := ((((Below.refl _ w).alloc (Nat.le_refl _) _).alloc (by simp) _).alloc (by simp; omega) _).alloc (by simp; omega) _
    have hsz : ((((w.alloc (.cells #[.slice ao n cap] 64)).alloc (.cells #[.slice none 0 0] 114)).alloc (.cells #[.int .i64 0] 24)).alloc (.cells #[.slice ao n cap] 64)).heap.size = w.heap.size + 4 := by simp
    simp only [World.size_alloc] at b1 b2 b3
    rw [hW0] at b0 b1 b2 b3 hB0 hsz ⊢
    clear hW0
    refine range_enter rfl (by decide) (gf := 178) (lb := #[.pointer (some ⟨w.heap.size + 1 + 1 + 1, 0, none⟩)]) rfl trivial (enters_of Tryz.func178 (by kernel_rfl) rfl) ?_
    intro fn hfn
    rw [hsz]
    generalize hrec : recOf fn _ _ _ _ _ = r
    have i0 : DSt w ao n cap (r .ready none) [] 0 (.slice none 0 0) ((W0.alloc (.deferred (some []))).alloc (.loop (r .ready none))) := by
      refine ⟨?_, ?_, (b0.alloc _).alloc _, (b1.alloc _).alloc _, (b2.alloc _).alloc _, (b3.alloc _).alloc _, OwnI.nil _ _, (hB0.alloc (by omega) _).alloc (by simp; omega) _⟩
      · have := World.alloc_heap_new (W0.alloc (.deferred (some []))) (.loop (r .ready none)); rwa [World.size_alloc, hsz] at this
      · have := World.alloc_heap_new W0 (.deferred (some [])); rw [hsz] at this; rw [Below.heap_alloc _ _ _ (by simp; omega)]; exact this
    refine (numbers1_in 3 (by decide) (w.heap.size + 4 + 1) (w.heap.size + 1 + 1 + 1) ao n cap xs hN (fun p W => ∃ acc aO cO, DSt w ao n cap (r .ready none) acc 0 (.slice aO acc.length cO) W ∧ dRel xs acc p) (fun W => DSt w ao n cap (r .done (some .ret)) [] 32 (.slice none 0 0) W ∧ decS xs = ([], 32)) _
      (fun p W1 h => by obtain ⟨acc, aO, cO, h, _⟩ := h; exact ⟨hs.below h.bel, h.b2.cell⟩) (fun p W1 W2 h d => by obtain ⟨acc, aO, cO, h, hr⟩ := h; exact ⟨acc, aO, cO, h.drawn d, hr⟩) ?_ ⟨[], none, 0, i0, .inl ⟨rfl, rfl⟩⟩).mono ?_
    · rintro p k N W1 ⟨acc, aO, cO, hI, hrel⟩ hp hpk hk hnk
      have hl := hI.loop
      rw [← hrec] at hl
      refine range_round (a₁ := { tmps := #[.slice ao n cap, .pointer (some ⟨w.heap.size, 0, none⟩), .pointer (some ⟨w.heap.size + 1, 0, none⟩), .pointer (some ⟨w.heap.size + 1 + 1, 0, none⟩), .int .i64 p, .int .i64 N, undef, .func (.func 168) #[] #[.pointer (some ⟨w.heap.size + 1, 0, none⟩), .pointer (some ⟨w.heap.size + 1 + 1, 0, none⟩)], .slice ao n cap, .int .i64 n, .bool false, .slice ao n cap, .func (.func 178) #[] #[.pointer (some ⟨w.heap.size + 1 + 1 + 1, 0, none⟩)], .int .i64 p, .int .i64 N, undef, undef, undef, undef, undef, undef, undef, undef, undef, undef, undef, undef, undef, undef, undef, undef, undef, undef, undef, undef, undef, undef, undef, undef, undef, undef, undef, undef, undef, undef], defers := [] }) hfn hl rfl ?_ ?_
      · intro K hK
        gi_wp2
        exact hK
      · rw [hrec]
        have hb : ∀ x ∈ xs.drop p, 0 ≤ x ∧ x < 256 := fun x hx => hs.hbyt x (List.mem_of_mem_drop hx)
        have he : (nextS (xs.drop p)).2.2 = 0 := by rw [hnk]
        have hin := nextS_in (xs.drop p) he
        have hz := nextS_size (xs.drop p) hb he
        have hli : Hid (p < xs.length) := by unfold Hid; rw [HL.out]; exact hp
        have hdn := hide (fun ha => decG_next xs acc p hli.out ha he)
        rw [hnk] at hin hz hdn
        have q0 : 0 ≤ N := hin.1
        have q1 : N ≤ 2147483647 := hin.2.1
        have hsc := hide (fun W => osize_any N q0 (by omega) W)
        have hz : sizeS N = (k : Int) := hz
        rw [hz] at hsc
        have HI := hide (hI.put (r .busy none))
        have c1 := HI.out.arcs.cell
        have hpI : (p : Int) + (k : Int) ≤ 140737488355328 := by omega
        clear hb hin hz hl hI hrec i0
        by_cases hp0 : p = 0
        · subst hp0
          obtain ⟨_, rfl⟩ : (0 = 0) ∧ acc = [] := by
            rcases hrel with h | ⟨h, _⟩
            · exact h
            · omega
          have hdec : Hid (decS xs = decG xs (firstS N) k) := by
            unfold Hid
            rw [List.drop_zero] at hnk
            unfold decS
            rw [hnk, if_pos rfl]
          clear hnk he hrel hdn
          have q2 : Int.tdiv N 40 = N / 40 := Int.tdiv_eq_ediv_of_nonneg q0
          by_cases h80 : ¬ 2 < N / 40
          · have HF : Hid (firstS N = [(N / 40), N - 40 * (N / 40)]) := by unfold Hid firstS; (by_cases h40 : N < 40; rw [if_pos h40, show N / 40 = 0 by omega]; simp; by_cases h81 : N < 80; rw [if_neg h40, if_pos h81, show N / 40 = 1 by omega]; simp; rw [if_neg h40, if_neg h81, show N / 40 = 2 by omega]; simp)
            have hdec : Hid (decS xs = decG xs [(N / 40), N - 40 * (N / 40)] k) := by unfold Hid; rw [hdec.out, HF.out]
            have hw1 : IntKind.i64.wrap (40 * (N / 40)) = 40 * (N / 40) := i64_in _ (by omega)
            have hw2 : IntKind.i64.wrap (N - 40 * (N / 40)) = N - 40 * (N / 40) := i64_in _ (by omega)
            gi_wp2_with (gi_at_builtin; refine wpListIn_appIN _ rfl (.tmp 20) (.tmp 26) rfl w.heap.size (.slice aO 0 cO) [] rfl (HI.out.row.alloc _) ⟨W1.heap.size, 0, none⟩ 2 2 [(N / 40), N - 40 * (N / 40)] rfl (SrcI.litAt [(N / 40), N - 40 * (N / 40)] _ 2 _ rfl rfl (by simp; omega) (by decide) (by simp)) 2 rfl (by simp) (by decide) (by have := HI.out.bel.size; simp at this ⊢; omega) ?_; intro g4 c4 w4 ho4 hb4 hl4 hc4 hm4 hg4; have a2 := HI.out.box _ hg4; have cA := a2.cell; have fA := a2.frozen)
            have D4 := hide (HI.out.append _ hg4 ho4)
            generalize w4.setCell ⟨w.heap.size + 1, 0, none⟩ (Value.slice (some ⟨g4, 0, none⟩) 2 c4) = w5 at D4 ⊢
            have cB := D4.out.arcs.cell
            clear a2 cA fA
            have D5 := hide (fun q => D4.out.drawn ((Drawn.refl w5).more q))
            have KEY : ∀ q a, rEnd (w.heap.size + 4 + 1) r (fun e W' => (e = .returned (.bool true) ∧ ∃ acc aO cO, DSt w ao n cap (r .ready none) acc 0 (.slice aO acc.length cO) W' ∧ dRel xs acc (_ + k)) ∨ (e = .returned (.bool false) ∧ DSt w ao n cap (r .done (some .ret)) [] 32 (.slice none 0 0) W' ∧ decS xs = ([], 32))) .normal a (w5.drewN q) :=
              fun q a => ⟨(D5.out q).loop, .inl ⟨rfl, [N / 40, N - 40 * (N / 40)], some ⟨g4, 0, none⟩, c4, by first | exact (D5.out q).put (r .ready none) | (rw [hlen.out]; exact (D5.out q).put (r .ready none)), (.inr ⟨by omega, by rw [Nat.zero_add]; exact hdec.out, by simp, fun h => absurd h (by simp)⟩)⟩⟩
            refine wpIn_region_quiet_roundB rfl (by kernel_rfl) (by kernel_rfl) (by kernel_rfl) ?_
            repeat (refine wpQuietIn_step (fun _ _ _ _ => trivial) (fun K hK => ?_); go_simp; first | (refine hK _ ?_; clear hK K) | (apply Exists.intro; refine ⟨fun _ => ?_, hK _ ?_⟩; (fail); clear hK K))
            refine wpQuietIn_nil ?_
            intro _ hw'
            obtain ⟨nq, hw''⟩ := hw'
            subst hw''
            gi_wp2
            exact KEY _ _
          · have h80 : 2 < N / 40 := by omega
            have HF : Hid (firstS N = [2, N - 40 * 2]) := by unfold Hid firstS; (rw [if_neg (by omega), if_neg (by omega)]; rfl)
            have hdec : Hid (decS xs = decG xs [2, N - 40 * 2] k) := by unfold Hid; rw [hdec.out, HF.out]
            have hw1 : IntKind.i64.wrap (40 * 2) = 40 * 2 := i64_in _ (by omega)
            have hw2 : IntKind.i64.wrap (N - 40 * 2) = N - 40 * 2 := i64_in _ (by omega)
            gi_wp2_with (gi_at_builtin; refine wpListIn_appIN _ rfl (.tmp 20) (.tmp 26) rfl w.heap.size (.slice aO 0 cO) [] rfl (HI.out.row.alloc _) ⟨W1.heap.size, 0, none⟩ 2 2 [2, N - 80] rfl (SrcI.litAt [2, N - 80] _ 2 _ rfl rfl (by simp; omega) (by decide) (by simp)) 2 rfl (by simp) (by decide) (by have := HI.out.bel.size; simp at this ⊢; omega) ?_; intro g4 c4 w4 ho4 hb4 hl4 hc4 hm4 hg4; have a2 := HI.out.box _ hg4; have cA := a2.cell; have fA := a2.frozen)
            have D4 := hide (HI.out.append _ hg4 ho4)
            generalize w4.setCell ⟨w.heap.size + 1, 0, none⟩ (Value.slice (some ⟨g4, 0, none⟩) 2 c4) = w5 at D4 ⊢
            have cB := D4.out.arcs.cell
            clear a2 cA fA
            have D5 := hide (fun q => D4.out.drawn ((Drawn.refl w5).more q))
            have KEY : ∀ q a, rEnd (w.heap.size + 4 + 1) r (fun e W' => (e = .returned (.bool true) ∧ ∃ acc aO cO, DSt w ao n cap (r .ready none) acc 0 (.slice aO acc.length cO) W' ∧ dRel xs acc (_ + k)) ∨ (e = .returned (.bool false) ∧ DSt w ao n cap (r .done (some .ret)) [] 32 (.slice none 0 0) W' ∧ decS xs = ([], 32))) .normal a (w5.drewN q) :=
              fun q a => ⟨(D5.out q).loop, .inl ⟨rfl, [2, N - 80], some ⟨g4, 0, none⟩, c4, by first | exact (D5.out q).put (r .ready none) | (rw [hlen.out]; exact (D5.out q).put (r .ready none)), (.inr ⟨by omega, by rw [Nat.zero_add]; exact hdec.out, by simp, fun h => absurd h (by simp)⟩)⟩⟩
            refine wpIn_region_quiet_roundB rfl (by kernel_rfl) (by kernel_rfl) (by kernel_rfl) ?_
            repeat (refine wpQuietIn_step (fun _ _ _ _ => trivial) (fun K hK => ?_); go_simp; first | (refine hK _ ?_; clear hK K) | (apply Exists.intro; refine ⟨fun _ => ?_, hK _ ?_⟩; (fail); clear hK K))
            refine wpQuietIn_nil ?_
            intro _ hw'
            obtain ⟨nq, hw''⟩ := hw'
            subst hw''
            gi_wp2
            exact KEY _ _
        · obtain ⟨hr0, hr1, hr2, hr3⟩ : 0 < p ∧ decS xs = decG xs acc p ∧ acc.length ≤ 20 ∧ (acc.length = 20 → p = xs.length) := by
            rcases hrel with ⟨h, _⟩ | h
            · exact absurd h hp0
            · exact h
          have h20 : acc.length ≠ 20 := fun h => by have h1 := hr3 h; have h2 := HL.out; omega
          have hdec : Hid (decS xs = decG xs (acc ++ [N]) (p + k)) := by unfold Hid; rw [hr1]; exact hdn.out h20
          have hlen : Hid ((acc ++ [N]).length = acc.length + 1) := by unfold Hid; simp
          have hp0b : ((p : Int) == 0) = false := by simp; omega
          have hcap := hide (show acc.length + 1 ≤ 20 by omega)
          have HIr := hide HI.out.row
          clear hnk he hrel hdn hr1 hr2 hr3
          generalize hLL : acc.length = L at HI c1 hlen hcap h20 HIr
          have HLL := hide hLL
          clear hLL
          by_cases hL : L + 1 = 20
          · obtain rfl : L = 19 := by omega
            by_cases hend : p + k < n
            · have hkI : (p : Int) + (k : Int) < (n : Int) := by omega
              have hpw : IntKind.i64.wrap ((p : Int) + (k : Int)) = (p : Int) + (k : Int) := i64_in _ (by omega)
              gi_wp2_with (gi_at_builtin; refine wpListIn_appIN _ rfl (.tmp 28) (.tmp 30) rfl w.heap.size (.slice aO 19 cO) acc rfl (HIr.out.alloc _) ⟨W1.heap.size, 0, none⟩ 1 1 [N] rfl (SrcI.litAt [N] _ 1 _ rfl rfl (by simp; omega) (by decide) (by simp)) 20 hlen.out (by simp) (by have := hcap.out; omega) (by have := HI.out.bel.size; simp at this ⊢; omega) ?_; intro g4 c4 w4 ho4 hb4 hl4 hc4 hm4 hg4; have a2 := HI.out.box _ hg4; have cA := a2.cell; have fA := a2.frozen)
              have D4 := hide (HI.out.append _ hg4 ho4)
              generalize w4.setCell ⟨w.heap.size + 1, 0, none⟩ (Value.slice (some ⟨g4, 0, none⟩) 20 c4) = w5 at D4 ⊢
              have cB := D4.out.arcs.cell
              have fB := D4.out.arcs.frozen
              have cC := D4.out.b.cell
              have bE := D4.out.er.other (B' := w.heap.size + 1) (by omega) (.slice none 0 0)
              have cE := bE.cell
              have fE := bE.frozen
              clear a2 cA fA bE
              have D5 := hide (fun q => D4.out.drawn ((Drawn.refl w5).more q))
              have KEYR : ∀ q a, rEnd (w.heap.size + 4 + 1) r (fun e W' => (e = .returned (.bool true) ∧ ∃ acc aO cO, DSt w ao n cap (r .ready none) acc 0 (.slice aO acc.length cO) W' ∧ dRel xs acc (p + k)) ∨ (e = .returned (.bool false) ∧ DSt w ao n cap (r .done (some .ret)) [] 32 (.slice none 0 0) W' ∧ decS xs = ([], 32))) .ret a (((w5.drewN q).setCell ⟨w.heap.size + 1, 0, none⟩ (.slice none 0 0)).setCell ⟨w.heap.size + 1 + 1, 0, none⟩ (.int .i64 32)) :=
                fun q a => ⟨((D5.out q).fail 32).loop, .inr ⟨rfl, ((D5.out q).fail 32).put (r .done (some .ret)), by rw [hdec.out]; exact decG_many xs (acc ++ [N]) (p + k) (by rw [HL.out]; exact hend) (by rw [hlen.out])⟩⟩
              refine wpIn_region_quiet_roundB rfl (by kernel_rfl) (by kernel_rfl) (by kernel_rfl) ?_
              repeat (refine wpQuietIn_step (fun _ _ _ _ => trivial) (fun K hK => ?_); go_simp; first | (refine hK _ ?_; clear hK K) | (apply Exists.intro; refine ⟨fun _ => ?_, hK _ ?_⟩; (exact CallsIn.quiet_of_same (callsIn_wide.2 (hsc.out _))); clear hK K))
              refine wpQuietIn_nil ?_
              intro _ hw'
              obtain ⟨nq, hw''⟩ := hw'
              subst hw''
              gi_wp2
              exact KEYR _ _
            · have hkI : ¬ (p : Int) + (k : Int) < (n : Int) := by omega
              have hkD : decide ((p : Int) + (k : Int) < (n : Int)) = false := by simpa using hkI
              have hpw : IntKind.i64.wrap ((p : Int) + (k : Int)) = (p : Int) + (k : Int) := i64_in _ (by omega)
              gi_wp2_with (gi_at_builtin; refine wpListIn_appIN _ rfl (.tmp 28) (.tmp 30) rfl w.heap.size (.slice aO 19 cO) acc rfl (HIr.out.alloc _) ⟨W1.heap.size, 0, none⟩ 1 1 [N] rfl (SrcI.litAt [N] _ 1 _ rfl rfl (by simp; omega) (by decide) (by simp)) 20 hlen.out (by simp) (by have := hcap.out; omega) (by have := HI.out.bel.size; simp at this ⊢; omega) ?_; intro g4 c4 w4 ho4 hb4 hl4 hc4 hm4 hg4; have a2 := HI.out.box _ hg4; have cA := a2.cell; have fA := a2.frozen)
              have D4 := hide (HI.out.append _ hg4 ho4)
              generalize w4.setCell ⟨w.heap.size + 1, 0, none⟩ (Value.slice (some ⟨g4, 0, none⟩) 20 c4) = w5 at D4 ⊢
              have cB := D4.out.arcs.cell
              have fB := D4.out.arcs.frozen
              have cC := D4.out.b.cell
              have bE := D4.out.er.other (B' := w.heap.size + 1) (by omega) (.slice none 0 0)
              have cE := bE.cell
              have fE := bE.frozen
              clear a2 cA fA bE
              have D5 := hide (fun q => D4.out.drawn ((Drawn.refl w5).more q))
              have KEY : ∀ q a, rEnd (w.heap.size + 4 + 1) r (fun e W' => (e = .returned (.bool true) ∧ ∃ acc aO cO, DSt w ao n cap (r .ready none) acc 0 (.slice aO acc.length cO) W' ∧ dRel xs acc (_ + k)) ∨ (e = .returned (.bool false) ∧ DSt w ao n cap (r .done (some .ret)) [] 32 (.slice none 0 0) W' ∧ decS xs = ([], 32))) .normal a (w5.drewN q) :=
                fun q a => ⟨(D5.out q).loop, .inl ⟨rfl, (acc ++ [N]), some ⟨g4, 0, none⟩, c4, by first | exact (D5.out q).put (r .ready none) | (rw [hlen.out]; exact (D5.out q).put (r .ready none)), (.inr ⟨by omega, hdec.out, by rw [hlen.out]; exact hcap.out, fun _ => by rw [HL.out]; omega⟩)⟩⟩
              refine wpIn_region_quiet_roundB rfl (by kernel_rfl) (by kernel_rfl) (by kernel_rfl) ?_
              repeat (refine wpQuietIn_step (fun _ _ _ _ => trivial) (fun K hK => ?_); go_simp; first | (refine hK _ ?_; clear hK K) | (apply Exists.intro; refine ⟨fun _ => ?_, hK _ ?_⟩; (exact CallsIn.quiet_of_same (callsIn_wide.2 (hsc.out _))); clear hK K))
              refine wpQuietIn_nil ?_
              intro _ hw'
              obtain ⟨nq, hw''⟩ := hw'
              subst hw''
              gi_wp2
              exact KEY _ _
          · have hLb : ((L : Int) + 1 == 20) = false := by simp; omega
            gi_wp2_with (gi_at_builtin; refine wpListIn_appIN _ rfl (.tmp 28) (.tmp 30) rfl w.heap.size (.slice aO L cO) acc rfl (HIr.out.alloc _) ⟨W1.heap.size, 0, none⟩ 1 1 [N] rfl (SrcI.litAt [N] _ 1 _ rfl rfl (by simp; omega) (by decide) (by simp)) (L + 1) hlen.out (by simp) (by have := hcap.out; omega) (by have := HI.out.bel.size; simp at this ⊢; omega) ?_; intro g4 c4 w4 ho4 hb4 hl4 hc4 hm4 hg4; have a2 := HI.out.box _ hg4; have cA := a2.cell; have fA := a2.frozen)
            have D4 := hide (HI.out.append _ hg4 ho4)
            generalize w4.setCell ⟨w.heap.size + 1, 0, none⟩ (Value.slice (some ⟨g4, 0, none⟩) (L + 1) c4) = w5 at D4 ⊢
            have cB := D4.out.arcs.cell
            clear a2 cA fA
            have D5 := hide (fun q => D4.out.drawn ((Drawn.refl w5).more q))
            have KEY : ∀ q a, rEnd (w.heap.size + 4 + 1) r (fun e W' => (e = .returned (.bool true) ∧ ∃ acc aO cO, DSt w ao n cap (r .ready none) acc 0 (.slice aO acc.length cO) W' ∧ dRel xs acc (_ + k)) ∨ (e = .returned (.bool false) ∧ DSt w ao n cap (r .done (some .ret)) [] 32 (.slice none 0 0) W' ∧ decS xs = ([], 32))) .normal a (w5.drewN q) :=
              fun q a => ⟨(D5.out q).loop, .inl ⟨rfl, (acc ++ [N]), some ⟨g4, 0, none⟩, c4, by first | exact (D5.out q).put (r .ready none) | (rw [hlen.out]; exact (D5.out q).put (r .ready none)), (.inr ⟨by omega, hdec.out, by rw [hlen.out]; exact hcap.out, fun h => absurd (hlen.out.symm.trans h) hL⟩)⟩⟩
            refine wpIn_region_quiet_roundB rfl (by kernel_rfl) (by kernel_rfl) (by kernel_rfl) ?_
            repeat (refine wpQuietIn_step (fun _ _ _ _ => trivial) (fun K hK => ?_); go_simp; first | (refine hK _ ?_; clear hK K) | (apply Exists.intro; refine ⟨fun _ => ?_, hK _ ?_⟩; (fail); clear hK K))
            refine wpQuietIn_nil ?_
            intro _ hw'
            obtain ⟨nq, hw''⟩ := hw'
            subst hw''
            gi_wp2
            exact KEY _ _
    · rintro e W' (⟨⟨v, rfl⟩, ⟨acc, aO, cO, hJ, hrel⟩ | ⟨hJ, hd⟩⟩ | ⟨p, hp, he, rfl, ⟨acc, aO, cO, hJ, hrel⟩⟩)
      · have hfin : Hid (decS xs = (acc, 0)) := by
          unfold Hid
          rcases hrel with ⟨h, _⟩ | ⟨_, h, _⟩
          · exact absurd h h0
          · rw [h, decG_end xs acc n (by rw [HL.out]; omega)]
        have hl := hJ.loop
        rw [← hrec] at hl
        refine range_done hl ?_
        rw [hrec]
        have hJ2 := hide (hJ.put (r .exhausted none))
        have c1 := hJ2.out.arcs.cell
        have f1 := hJ2.out.arcs.frozen
        have c2 := (hJ2.out.er.other (B' := w.heap.size + 1) (by omega) (.slice aO acc.length cO)).cell
        have f2 := (hJ2.out.er.other (B' := w.heap.size + 1) (by omega) (.slice aO acc.length cO)).frozen
        clear hJ hl hrec i0
        gi_wp2
        refine dec_leave w ao n cap _ acc 0 _ _ _ _ _ ?_ ?_ (hJ2.out.again 0) ⟨_, _, _, rfl⟩ (.inl ⟨rfl, hfin.out⟩) <;> rfl
      · have hl := hJ.loop
        rw [← hrec] at hl
        refine range_left hl ?_
        rw [hrec]
        have hJ2 := hJ.put (r .exhausted (some .ret))
        have HD := hide hd
        clear hrec i0 hd
        gi_wp2
        refine dec_leave w ao n cap _ [] 32 _ _ _ _ _ ?_ ?_ hJ2 ⟨_, _, _, rfl⟩ (.inl ⟨rfl, HD.out⟩) <;> rfl
      · have hfin : decS xs = ([], (nextS (xs.drop p)).2.2) := by
          rcases hrel with ⟨rfl, _⟩ | ⟨_, h, h1, h2⟩
          · rw [List.drop_zero] at he ⊢; unfold decS; rw [if_neg he]
          · rw [h]
            exact decG_bad xs acc p (by rw [HL.out]; exact hp) (fun h20 => by have := h2 h20; have := HL.out; omega) he
        clear hrec i0
        simp only [rangePost, Exit.inBlock, Exit.then]
        refine dec_leave w ao n cap _ acc 0 _ _ _ _ _ ?_ ?_ hJ ⟨_, _, _, rfl⟩ (.inr ⟨_, rfl, hfin⟩) <;> rfl

end Go.Proofs.YtklchpdpooikdaaGreatDoor
