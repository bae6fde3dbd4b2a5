/-
  The document's guess: what name bytes may be.
-/
import Derived.Lib.ConvBytes
import Derived.Deep.RegionHeld3
import Derived.Test.YtklchpdpooikdaaGreatDoorXNmInsToNmRPut
import Derived.Test.YtklchpdpooikdaaGreatDoorXNmRMay2ToNmREnc
namespace Go.Proofs.YtklchpdpooikdaaGreatDoor
open Go.RowKit Go.IntWalk Go.Shelf
attribute [local go_sem ↓] appOf_of

theorem gsE_none {X : List Int} (h : insS X 48 = none) : gsE X = none := by unfold gsE; rw [h]
theorem gsE_two {X : List Int} {l : List (Int × List Int)} (h : insS X 48 = some l) (h2 : l.length ≠ 2) : gsE X = none := by
  unfold gsE
  rw [h]
  match l, h2 with
  | [], _ => rfl
  | [_], _ => rfl
  | [_, _], h2 => exact absurd rfl h2
  | _ :: _ :: _ :: _, _ => rfl
theorem gsE_three {X : List Int} {l : List (Int × List Int)} (h : insS X 48 = some l) (h2 : l.length = 2) (h3 : (l.getD 0 (0, [])).2.length ≠ 3) : gsE X = none := by
  unfold gsE
  rw [h]
  match l, h2 with
  | [a, b], _ => exact if_neg h3
theorem gsE_some {X : List Int} {l : List (Int × List Int)} (h : insS X 48 = some l) (h2 : l.length = 2) (h3 : (l.getD 0 (0, [])).2.length = 3) : gsE X = some ((l.getD 0 (0, [])).2.getD 2 0, strOfNums (l.getD 1 (0, [])).2) := by
  unfold gsE
  rw [h]
  match l, h2 with
  | [a, b], _ => exact if_pos h3
theorem one_src (W : World) (t : Int) (s : ByteArray) (hs : s.size ≤ 1048576) : Ats (W.alloc (.cells #[.int .i64 t, .string s] 111)) (some ⟨W.heap.size, 0, none⟩) 1 1 [(t, s)] := by
  refine ⟨rfl, Nat.le_refl _, by decide, by intro x hx; simp at hx; subst hx; simp only; omega, fun _ => ⟨W.heap.size, 0, rfl, fun i hi => ?_⟩⟩
  obtain rfl : i = 0 := by omega
  exact ⟨by simp, by simp⟩

/-- What the last steps of a round read. -/
def GAt (base b2 o2 bb oo : Nat) (q : Int) (a1 : Option Addr) (c1 : Nat) (a3 : Option Addr) (m3 c3 : Nat) (V : List Int) (W : World) : Prop :=
  W.cell? ⟨b2, o2 + 1, none⟩ = some (.slice a1 3 c1) ∧ W.cell? ⟨bb, oo + 2, none⟩ = some (.int .u8 q) ∧ W.cell? ⟨b2, o2 + 2 + 1, none⟩ = some (.slice a3 m3 c3) ∧ OwnB W base (.slice a3 m3 c3) V
theorem GAt.below {base b2 o2 bb oo : Nat} {q : Int} {a1 : Option Addr} {c1 : Nat} {a3 : Option Addr} {m3 c3 : Nat} {V : List Int} {A C : World} (h : GAt base b2 o2 bb oo q a1 c1 a3 m3 c3 V A) (hb : Below A.heap.size A C) : GAt base b2 o2 bb oo q a1 c1 a3 m3 c3 V C := by
  obtain ⟨r0, r1, r2, r3⟩ := h
  exact ⟨(hb.cell (lt_of_cell r0)).trans r0, (hb.cell (lt_of_cell r1)).trans r1, (hb.cell (lt_of_cell r2)).trans r2, row_below r3 hb⟩
theorem GAt.grown {base b2 o2 bb oo : Nat} {q : Int} {a1 : Option Addr} {c1 : Nat} {a3 : Option Addr} {m3 c3 : Nat} {V : List Int} {A C : World} (h : GAt base b2 o2 bb oo q a1 c1 a3 m3 c3 V A) {v : Value} {N : Nat} {xs : List (Int × ByteArray)} (ho : OwnA A N v xs) (hg : A.grownBy C v.ownBlock) (h2 : v.ownBlock ≠ some b2) (h3 : v.ownBlock ≠ some bb) : GAt base b2 o2 bb oo q a1 c1 a3 m3 c3 V C := by
  obtain ⟨r0, r1, r2, r3⟩ := h
  exact ⟨(grown_cell_old hg r0 (fun e => h2 e.symm)).trans r0, (grown_cell_old hg r1 (fun e => h3 e.symm)).trans r1, (grown_cell_old hg r2 (fun e => h2 e.symm)).trans r2, row_apart r3 ho (by decide) hg⟩

set_option maxRecDepth 100000 in
set_option maxHeartbeats 4000000 in
theorem guess_any (ao : Option Addr) (n cap : Nat) (xs : List Int) (w : World) (hs : Src w ao n cap xs) (hN : n ≤ 1048576) :
    Calls Tryz.prog 58 #[.slice ao n cap] w fun e w' => ∃ a m c, e = .returned (.slice a m c) ∧ OwnA w' w.heap.size (.slice a m c) (gsN xs) ∧ Below w.heap.size w w' := by
  have h1 := hide (inside_any ao n cap xs 48 w hs hN)
  have hL : ∀ e ∈ (insS xs 48).getD [], e.2.length ≤ n := by
    cases hi : insS xs 48 with
    | none => simp
    | some l => intro e he; have := ins_len hi e (by simpa using he); rw [hs.hlen] at this; exact this
  have HL := hide hL
  have HG : Hid (gsN xs = (gsL ((insS xs 48).getD [])).getD []) := rfl
  clear hs hL
  generalize (insS xs 48).getD [] = es at *
  generalize (insS xs 48).isSome = ok at *
  generalize gsN xs = G at *
  go_enter Tryz.func58, Tryz.ntmps58
  go_wp2_with fail
  refine h1.out.mono ?_
  rintro e w1 ⟨a1, m1, c1, rfl, hE0, hm1, B0⟩
  have hE := hide hE0
  have B1 := hide B0
  clear h1 hE0 B0
  go_wp2
  go_loopw [5, 6] (fun v i wr => ∃ (aC : Option Addr) (mC cC k : Nat) (R : List (Int × ByteArray)), v = .slice aC mC cC ∧ i = .int .i64 k ∧ k ≤ m1 ∧ R.length = k ∧ Hid (OwnA wr w1.heap.size (.slice aC mC cC) R ∧ Below w1.heap.size w1 wr ∧ gsL (es.take k) = some R)) (fun _ i _ => m1 - (intOf i).toNat)
  case atStart => exact ⟨none, 0, 0, 0, [], rfl, rfl, Nat.zero_le _, rfl, OwnA.nil _ _, Below.refl _ _, rfl⟩
  case round =>
    obtain ⟨aC, mC, cC, k, R, rfl, rfl, hk, hRk, HQ⟩ := hrel
    have hel := hE.out.hl
    by_cases hlt : k < m1
    · have ltI : (k : Int) < (m1 : Int) := by omega
      obtain ⟨b, off, rfl, _, hcl⟩ := (hE.out.below HQ.out.2.1).hrd (by omega)
      obtain ⟨a, m, c, d1, d2, d4⟩ := hcl k hlt
      have hmem : es.getD k (0, []) ∈ es := by rw [List.getD, List.getElem?_eq_getElem (by omega)]; exact List.getElem_mem _
      have d3 := OwnB.toSrc d4 (hE.out.hbyt _ hmem)
      have hml : Hid (m ≤ 1048576) := by
        have h3 := d3.hlen
        have h4 := HL.out _ hmem
        unfold Hid
        omega
      have hc2 := hide (inside_any a m c _ 48 wr d3 hml.out)
      have HF : Hid (gsE (es.getD k (0, [])).2 = none → gsL es = none) := gsL_fail es k (by omega)
      have HS : Hid (∀ x, gsE (es.getD k (0, [])).2 = some x → gsL (es.take (k + 1)) = some (R ++ [x])) := fun x hx => gsL_snoc es k R x (by omega) HQ.out.2.2 hx
      have HXL : Hid ((es.getD k (0, [])).2.length ≤ 1048576) := by unfold Hid; rw [d3.hlen]; exact hml.out
      clear hcl d3 d4 d1 hmem
      generalize (es.getD k (0, [])).2 = X at *
      have hX : (∃ l, insS X 48 = some l) ∨ insS X 48 = none := by cases insS X 48 <;> simp
      go_wp2_with fail
      refine hc2.out.mono ?_
      rintro e w2 ⟨a2, m2, c2, rfl, hE2, hm2, B2⟩
      have B02 := hide (B1.out.trans ((HQ.out.2.1.trans (B2.mono HQ.out.2.1.size)).mono B1.out.size))
      rcases hX with ⟨l, hX⟩ | hX
      · rw [hX] at hE2 ⊢
        simp only [Option.getD_some, Option.isSome_some] at hE2 ⊢
        have hl2 := hE2.hl
        by_cases h2 : m2 = 2
        · subst h2
          obtain ⟨b2, o2, rfl, hb2, hcl2⟩ := hE2.hrd (by omega)
          obtain ⟨a3, m3, c3, f1, f2, f3⟩ := hcl2 0 (by omega)
          obtain ⟨a4, m4, c4, g1, g2, g3⟩ := hcl2 1 (by omega)
          simp only [Nat.zero_mul, Nat.add_zero, Nat.one_mul] at f2 g2
          have m0 : l.getD 0 (0, []) ∈ l := by rw [List.getD, List.getElem?_eq_getElem (by omega)]; exact List.getElem_mem _
          have m1' : l.getD 1 (0, []) ∈ l := by rw [List.getD, List.getElem?_eq_getElem (by omega)]; exact List.getElem_mem _
          have HVB := hide (hE2.hbyt _ m1')
          have hOb := f3
          replace f3 := OwnB.toSrc f3 (hE2.hbyt _ m0)
          by_cases h3 : m3 = 3
          · subst h3
            have hF : Hid (gsL (es.take (k + 1)) = some (R ++ [((l.getD 0 (0, [])).2.getD 2 0, strOfNums (l.getD 1 (0, [])).2)])) := HS.out _ (gsE_some hX hl2 f3.hlen)
            have hVl : (l.getD 1 (0, [])).2.length ≤ 1048576 := by
              have h4 := ins_len hX _ m1'
              have := HXL.out
              omega
            clear m0 m1'
            generalize (l.getD 0 (0, [])).2 = C at *
            generalize (l.getD 1 (0, [])).2 = V at *
            have hC3 := f3.hlen
            obtain ⟨bb, oo, rfl, hcc⟩ := f3.hrd (by intro h; subst h; simp at hC3)
            have hb3 := (OwnB.lt hOb bb rfl).1
            have q2 := hcc 2 (by omega)
            have hq := f3.hbyt (C.getD 2 0) (by rw [List.getD, List.getElem?_eq_getElem (by omega)]; exact List.getElem_mem _)
            obtain ⟨q, hqe⟩ : ∃ q, C.getD 2 0 = q := ⟨_, rfl⟩
            rw [hqe] at q2 hq hF
            have hSt : GAt wr.heap.size b2 o2 bb oo q (some ⟨bb, oo, none⟩) c3 a4 m4 c4 V w2.drew := ⟨f2, q2, g2, row_below g3 (Below.refl _ _).drew⟩
            have wq : IntKind.i64.wrap q = q := i64_in _ (by omega)
            have HS2 := hide (show (strOfNums V).size ≤ 1048576 by rw [str_len]; exact hVl)
            have HO2 := hide (HQ.out.1.below B2)
            have HB1d : Hid (Below w1.heap.size w1 w2.drew) := (HQ.out.2.1.trans (B2.mono HQ.out.2.1.size)).drew
            have hlt1 : ∀ j, (Value.slice aC mC cC).ownBlock = some j → j < wr.heap.size := fun j hj => (World.ownsRow.lt HQ.out.1 j hj).2
            have N2 := hide (show (Value.slice aC mC cC).ownBlock ≠ some b2 from fun e => by have := hlt1 _ e; omega)
            have N3 := hide (show (Value.slice aC mC cC).ownBlock ≠ some bb from fun e => by have := hlt1 _ e; omega)
            clear hlt1 hb2 hb3 hOb
            clear hcl2 f1 f3 g1 hcc hqe hq hC3 hX hE2 HS HF hc2 hVl hl2 g3 B2
            have r0 := hSt.1
            go_wp2_with fail
            refine wp_region_held_drew (S := GAt wr.heap.size b2 o2 bb oo q (some ⟨bb, oo, none⟩) c3 a4 m4 c4 V) (by kernel_rfl) hSt (fun hS => ?_)
            have HOd := hide (show OwnA w2.drew w1.heap.size (.slice aC mC cC) R from row_below HO2.out ((Below.refl _ _).drew))
            have B02d := hide (show Below w.heap.size w w2.drew from B02.out.drew)
            have B1d := HB1d.out
            clear hSt r0
            generalize w2.drew = X0 at *
            refine wpAnyH_take (i := 0) (v := ?_) rfl (by kernel_rfl) (by kernel_rfl) (by kernel_rfl) (fun _ _ _ h => h) (Or.inl ⟨by rfl, ?_⟩) (by assumption) ?_
            rotate_left
            · intro wq hSq
              obtain ⟨r0, r1, r2, r3⟩ := hSq
              go_simp
              try with_reducible rfl
            simp only [List.getElem_toArray, List.getElem_cons_zero, Act.put, List.setIfInBounds_toArray, List.set_cons_zero, List.set_cons_succ]
            refine wpAnyH_take (i := 1) (v := ?_) rfl (by kernel_rfl) (by kernel_rfl) (by kernel_rfl) (fun _ _ _ h => h) (Or.inl ⟨by rfl, ?_⟩) (by assumption) ?_
            rotate_left
            · intro wq hSq
              obtain ⟨r0, r1, r2, r3⟩ := hSq
              go_simp
              try with_reducible rfl
            simp only [List.getElem_toArray, List.getElem_cons_succ, List.getElem_cons_zero, Act.put, List.setIfInBounds_toArray, List.set_cons_zero, List.set_cons_succ]
            refine wpAnyH_take (i := 2) (v := ?_) rfl (by kernel_rfl) (by kernel_rfl) (by kernel_rfl) (fun _ _ _ h => h) (Or.inl ⟨by rfl, ?_⟩) (by assumption) ?_
            rotate_left
            · intro wq hSq
              obtain ⟨r0, r1, r2, r3⟩ := hSq
              go_simp
              try with_reducible rfl
            simp only [List.getElem_toArray, List.getElem_cons_succ, List.getElem_cons_zero, Act.put, List.setIfInBounds_toArray, List.set_cons_zero, List.set_cons_succ]
            refine wpAnyH_take (i := 3) (v := ?_) rfl (by kernel_rfl) (by kernel_rfl) (by kernel_rfl) (fun _ _ _ h => h) (Or.inl ⟨by rfl, ?_⟩) (by assumption) ?_
            rotate_left
            · intro wq hSq
              obtain ⟨r0, r1, r2, r3⟩ := hSq
              go_simp
              try with_reducible rfl
            simp only [List.getElem_toArray, List.getElem_cons_succ, List.getElem_cons_zero, Act.put, List.setIfInBounds_toArray, List.set_cons_zero, List.set_cons_succ]
            refine wpAnyH_take (i := 4) (v := ?_) rfl (by kernel_rfl) (by kernel_rfl) (by kernel_rfl) (fun _ _ _ h => h) (Or.inl ⟨by rfl, ?_⟩) (by assumption) ?_
            rotate_left
            · intro wq hSq
              obtain ⟨r0, r1, r2, r3⟩ := hSq
              go_simp
              try with_reducible rfl
            simp only [List.getElem_toArray, List.getElem_cons_succ, List.getElem_cons_zero, Act.put, List.setIfInBounds_toArray, List.set_cons_zero, List.set_cons_succ]
            refine wpAnyH_take (i := 5) (v := ?_) rfl (by kernel_rfl) (by kernel_rfl) (by kernel_rfl) (fun _ _ _ h => h) (Or.inl ⟨by rfl, ?_⟩) (by assumption) ?_
            rotate_left
            · intro wq hSq
              obtain ⟨r0, r1, r2, r3⟩ := hSq
              go_simp
              try with_reducible rfl
            simp only [List.getElem_toArray, List.getElem_cons_succ, List.getElem_cons_zero, Act.put, List.setIfInBounds_toArray, List.set_cons_zero, List.set_cons_succ]
            refine wpAnyH_take (i := 6) (v := ?_) rfl (by kernel_rfl) (by kernel_rfl) (by kernel_rfl) (fun _ _ _ h => h) (Or.inl ⟨by rfl, ?_⟩) (by assumption) ?_
            rotate_left
            · intro wq hSq
              obtain ⟨r0, r1, r2, r3⟩ := hSq
              go_simp
              try with_reducible rfl
            simp only [List.getElem_toArray, List.getElem_cons_succ, List.getElem_cons_zero, Act.put, List.setIfInBounds_toArray, List.set_cons_zero, List.set_cons_succ]
            refine wpAnyH_take (i := 7) (v := ?_) rfl (by kernel_rfl) (by kernel_rfl) (by kernel_rfl) (fun _ _ _ h => h) (Or.inl ⟨by rfl, ?_⟩) (by assumption) ?_
            rotate_left
            · intro wq hSq
              obtain ⟨r0, r1, r2, r3⟩ := hSq
              go_simp
              try with_reducible rfl
            simp only [List.getElem_toArray, List.getElem_cons_succ, List.getElem_cons_zero, Act.put, List.setIfInBounds_toArray, List.set_cons_zero, List.set_cons_succ]
            refine wpAnyH_take (i := 8) (v := ?_) rfl (by kernel_rfl) (by kernel_rfl) (by kernel_rfl) (fun _ _ _ h => h) (Or.inl ⟨by rfl, ?_⟩) (by assumption) ?_
            rotate_left
            · intro wq hSq
              obtain ⟨r0, r1, r2, r3⟩ := hSq
              go_simp
              try with_reducible rfl
            simp only [List.getElem_toArray, List.getElem_cons_succ, List.getElem_cons_zero, Act.put, List.setIfInBounds_toArray, List.set_cons_zero, List.set_cons_succ]
            refine wpAnyH_take (i := 9) (v := ?_) rfl (by kernel_rfl) (by kernel_rfl) (by kernel_rfl) (fun _ _ _ h => h) (Or.inl ⟨by rfl, ?_⟩) (by assumption) ?_
            rotate_left
            · intro wq hSq
              obtain ⟨r0, r1, r2, r3⟩ := hSq
              go_simp
              try with_reducible rfl
            simp only [List.getElem_toArray, List.getElem_cons_succ, List.getElem_cons_zero, Act.put, List.setIfInBounds_toArray, List.set_cons_zero, List.set_cons_succ]
            refine wpAnyH_take (i := 10) (v := ?_) rfl (by kernel_rfl) (by kernel_rfl) (by kernel_rfl) (fun _ _ _ h => h) (Or.inl ⟨by rfl, ?_⟩) (by assumption) ?_
            rotate_left
            · intro wq hSq
              obtain ⟨r0, r1, r2, r3⟩ := hSq
              go_simp
              try with_reducible rfl
            simp only [List.getElem_toArray, List.getElem_cons_succ, List.getElem_cons_zero, Act.put, List.setIfInBounds_toArray, List.set_cons_zero, List.set_cons_succ]
            refine wpAnyH_take (i := 11) (v := ?_) rfl (by kernel_rfl) (by kernel_rfl) (by kernel_rfl) (fun _ _ _ h => h) (Or.inl ⟨by rfl, ?_⟩) (by assumption) ?_
            rotate_left
            · intro wq hSq
              obtain ⟨r0, r1, r2, r3⟩ := hSq
              go_simp
              try with_reducible rfl
            simp only [List.getElem_toArray, List.getElem_cons_succ, List.getElem_cons_zero, Act.put, List.setIfInBounds_toArray, List.set_cons_zero, List.set_cons_succ]
            refine wpAnyH_take (i := 12) (v := .string (strOfNums V)) rfl (by kernel_rfl) (by kernel_rfl) (by kernel_rfl) (fun _ _ _ h => h) (Or.inl ⟨by rfl, ?_⟩) (by assumption) ?_
            · intro wq hSq
              obtain ⟨r0, r1, r2, r3⟩ := hSq
              have rt := (OwnB.toSrc r3 HVB.out).text
              go_simp
            simp only [List.getElem_toArray, List.getElem_cons_succ, List.getElem_cons_zero, Act.put, List.setIfInBounds_toArray, List.set_cons_zero, List.set_cons_succ]
            refine wpAnyH_take (i := 13) (v := ?_) rfl (by kernel_rfl) (by kernel_rfl) (by kernel_rfl) (fun _ _ _ h => h) (Or.inl ⟨by rfl, ?_⟩) (by assumption) ?_
            rotate_left
            · intro wq hSq
              obtain ⟨r0, r1, r2, r3⟩ := hSq
              go_simp
              try with_reducible rfl
            simp only [List.getElem_toArray, List.getElem_cons_succ, List.getElem_cons_zero, Act.put, List.setIfInBounds_toArray, List.set_cons_zero, List.set_cons_succ]
            refine wpAnyH_ready (rs := [14]) (by kernel_rfl) (by simp) ?_
            refine AllReadyH.cons rfl (fun Kq hKq => ?_) AllReadyH.nil
            go_simp
            have nb := nbelow X0 (.cells #[.int .i64 q, .string (strOfNums V)] 111)
            have s1 := one_src X0 q (strOfNums V) HS2.out
            have hS1 := hS.below nb
            refine hKq.out _ _ hS1 (fun _ => ?_)
            clear hKq Kq hS
            have HB2 := hide (B02d.out.trans (nb.mono B02d.out.size))
            have HB3 := hide (B1d.trans (nb.mono B1d.size))
            have O2 := HOd.out.below nb
            generalize X0.heap.size = X0s at s1 ⊢
            generalize (X0.alloc (.cells #[.int .i64 q, .string (strOfNums V)] 111)) = X1 at *
            obtain ⟨g, cg, X2, hrun, o3, hg, hcg, _, hgr, _⟩ := run_appA X1 61 w1.heap.size _ _ O2 _ _ _ _ s1 (k + 1) (by rw [hRk]) (by omega) HB3.out.size
            rw [appOf_of] at hrun
            refine wpAnyH_ready (rs := [15]) (by kernel_rfl) (by simp) ?_
            refine AllReadyH.cons rfl (fun Kq hKq => ?_) AllReadyH.nil
            go_simp
            have hS2 := hS1.grown O2 hgr N2.out N3.out
            refine hKq.out _ _ hS2 (fun _ => ?_)
            clear hKq Kq hS1
            refine wpAnyH_ready (rs := [16]) (by kernel_rfl) (by simp) ?_
            refine AllReadyH.cons rfl (fun Kq hKq => ?_) AllReadyH.nil
            go_simp
            refine hKq.out _ _ hS2 (fun _ => ?_)
            clear hKq Kq hS2
            refine wpAnyH_done (by kernel_rfl) ?_ _
            have L1 : Below w1.heap.size w1 X2 := HB3.out.grown hgr HB3.out.size (fun j hj => (World.ownsRow.lt O2 j hj).1)
            have HR := hide (And.intro o3 (And.intro L1 hF.out))
            clear o3 hgr O2 L1 hrun
            go_wp2
            go_roundw
            case rel => exact ⟨_, _, cg, k + 1, _, rfl, rfl, by omega, by simp [hRk], HR.out⟩
            case measure => simp [intOf] <;> omega
          · have hG : G = [] := by rw [HG.out, HF.out (gsE_three hX hl2 (by rw [f3.hlen]; exact h3))]; rfl
            subst hG
            have c3I : ((m3 : Int) != 3) = true := by simp; omega
            clear HS HF HG
            go_wp2
            refine bodyPost_ret (v := .slice none 0 0) (by simp [results, Tryz.results58, go_sem]) rfl ⟨none, 0, 0, rfl, OwnA.nil _ _, B02.out⟩
        · have hG : G = [] := by rw [HG.out, HF.out (gsE_two hX (by omega))]; rfl
          subst hG
          have c2I : ((m2 : Int) != 2) = true := by simp; omega
          clear HS HF HG
          go_wp2
          refine bodyPost_ret (v := .slice none 0 0) (by simp [results, Tryz.results58, go_sem]) rfl ⟨none, 0, 0, rfl, OwnA.nil _ _, B02.out⟩
      · rw [hX]
        have hG : G = [] := by rw [HG.out, HF.out (gsE_none hX)]; rfl
        subst hG
        clear HS HF HG
        go_wp2
        refine bodyPost_ret (v := .slice none 0 0) (by simp [results, Tryz.results58, go_sem]) rfl ⟨none, 0, 0, rfl, OwnA.nil _ _, B02.out⟩
    · obtain rfl : k = m1 := by omega
      have hG : G = R := by
        have h5 := HQ.out.2.2
        rw [List.take_of_length_le (by omega)] at h5
        rw [HG.out, h5]; rfl
      subst hG
      have nI : ¬ ((k : Int) < (k : Int)) := by omega
      go_wp2
      refine bodyPost_ret (v := .slice aC mC cC) (by simp [results, Tryz.results58, go_sem]) rfl ⟨aC, mC, cC, rfl, ?_, B1.out.trans (HQ.out.2.1.mono B1.out.size)⟩
      exact OwnA.rebase HQ.out.1 B1.out.size

end Go.Proofs.YtklchpdpooikdaaGreatDoor
