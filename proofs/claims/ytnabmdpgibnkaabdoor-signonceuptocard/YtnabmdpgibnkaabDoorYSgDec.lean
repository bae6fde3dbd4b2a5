/-
  sign.Decode: a signature that is read has these bytes.
-/
import Derived.Test.YtnabmdpgibnkaabDoorYSgDcdToSgOnM
import Derived.Test.YtnabmdpgibnkaabDoorYAllIt
namespace Go.Proofs.YtnabmdpgibnkaabDoor
open Go.RowKit Go.IntWalk
theorem ld_sg (v : Value) : Instr.loadAt 26 v = ldA 26 v := rfl
theorem st_sg (v u : Value) : Instr.storeAt 26 v u = stA 26 v u := rfl
theorem bd_sg (ps : Array (Nat × Value)) : Instr.build 26 ps = bdA 26 ps := rfl
theorem eq_sg (x y : Value) : binOp .eql 26 x y = eqA 26 x y := rfl
attribute [local go_sem ↓] ld_dig st_dig ne_dgs bd_dgs ld_sg st_sg bd_sg

theorem info_sg : (Tryd.prog.info? 26).map (·.size) = some 64 := by kernel_rfl
def sgZ : List Value := sgL z32 z32
theorem sgZ_eq : sgZ = sgL z32 z32 := rfl
theorem bds0 (w : World) : (bdA 26 #[]).run Tryd.prog w = .ok (.agg sgZ.toArray) w := by kernel_rfl
theorem stSg {T : TypeId} {w : World} {g : Nat} {Z L : List Value} (h : Blk T w g Z) (hZ : Z.length = 64) (hL : L.length = 64) (h1 : ∀ v ∈ L, v.oneCell' = true) : (stA 26 (.pointer (some ⟨g, 0, none⟩)) (.agg L.toArray)).run Tryd.prog w = .ok () (w.setCells g 0 L) :=
  stA_all (by rw [hL]; exact info_sg) h (by rw [hZ, hL]) h1
theorem bds2' (x0 x1 x2 x3 x4 x5 x6 x7 x8 x9 x10 x11 x12 x13 x14 x15 x16 x17 x18 x19 x20 x21 x22 x23 x24 x25 x26 x27 x28 x29 x30 x31 y0 y1 y2 y3 y4 y5 y6 y7 y8 y9 y10 y11 y12 y13 y14 y15 y16 y17 y18 y19 y20 y21 y22 y23 y24 y25 y26 y27 y28 y29 y30 y31 : Int) (w : World) : (bdA 26 #[(0, .agg (bV [x0, x1, x2, x3, x4, x5, x6, x7, x8, x9, x10, x11, x12, x13, x14, x15, x16, x17, x18, x19, x20, x21, x22, x23, x24, x25, x26, x27, x28, x29, x30, x31]).toArray), (1, .agg (bV [y0, y1, y2, y3, y4, y5, y6, y7, y8, y9, y10, y11, y12, y13, y14, y15, y16, y17, y18, y19, y20, y21, y22, y23, y24, y25, y26, y27, y28, y29, y30, y31]).toArray)]).run Tryd.prog w = .ok (.agg (sgL [x0, x1, x2, x3, x4, x5, x6, x7, x8, x9, x10, x11, x12, x13, x14, x15, x16, x17, x18, x19, x20, x21, x22, x23, x24, x25, x26, x27, x28, x29, x30, x31] [y0, y1, y2, y3, y4, y5, y6, y7, y8, y9, y10, y11, y12, y13, y14, y15, y16, y17, y18, y19, y20, y21, y22, y23, y24, y25, y26, y27, y28, y29, y30, y31]).toArray) w := by kernel_rfl

theorem bds2 (X Y : List Int) (hX : X.length = 32) (hY : Y.length = 32) (w : World) : (bdA 26 #[(0, .agg (bV X).toArray), (1, .agg (bV Y).toArray)]).run Tryd.prog w = .ok (.agg (sgL X Y).toArray) w := by
  match X, hX with
  | [x0, x1, x2, x3, x4, x5, x6, x7, x8, x9, x10, x11, x12, x13, x14, x15, x16, x17, x18, x19, x20, x21, x22, x23, x24, x25, x26, x27, x28, x29, x30, x31], _ =>
    match Y, hY with
    | [y0, y1, y2, y3, y4, y5, y6, y7, y8, y9, y10, y11, y12, y13, y14, y15, y16, y17, y18, y19, y20, y21, y22, y23, y24, y25, y26, y27, y28, y29, y30, y31], _ => exact bds2' x0 x1 x2 x3 x4 x5 x6 x7 x8 x9 x10 x11 x12 x13 x14 x15 x16 x17 x18 x19 x20 x21 x22 x23 x24 x25 x26 x27 x28 x29 x30 x31 y0 y1 y2 y3 y4 y5 y6 y7 y8 y9 y10 y11 y12 y13 y14 y15 y16 y17 y18 y19 y20 y21 y22 y23 y24 y25 y26 y27 y28 y29 y30 y31 w

theorem dg_toNat {c : List Int} (h : Dg 256 c) : Dg 256 (toNatV c) := by
  unfold toNatV
  split
  · split
    · exact fun x hx => by cases hx
    · split
      · exact fun x hx => h x (List.mem_of_mem_drop hx)
      · exact h
  · exact fun x hx => by cases hx
theorem dcD_len (c : List Int) : (dcD c).length = 32 := by
  unfold dcD
  split
  · rfl
  · split
    · rfl
    · exact padD_len (by omega)

set_option maxRecDepth 100000 in
set_option maxHeartbeats 4000000 in
theorem decode_once (ao : Option Addr) (n cap : Nat) (xs : List Int) (w : World) (hs : Src w ao n cap xs) (hn : n ≤ 1099511627776) :
    Calls Tryd.prog 9 #[.slice ao n cap] w fun e w' => ∃ R S err, e = .returned (.tuple #[.agg (sgL R S).toArray, .int .i64 err]) ∧ (err ≠ 0 → R = z32 ∧ S = z32) ∧ (err = 0 → R.length = 32 ∧ S.length = 32 ∧ Dg 256 R ∧ Dg 256 S ∧ encB R S = xs) ∧ Below w.heap.size w w' := by
  have HB := hide hs.hbyt
  have HL := hide hs.hlen
  have HSR := hide hs
  have hS : Bx w [(w.heap.size, 26, sgZ)] (w.alloc (.cells #[.int .u8 0, .int .u8 0, .int .u8 0, .int .u8 0, .int .u8 0, .int .u8 0, .int .u8 0, .int .u8 0, .int .u8 0, .int .u8 0, .int .u8 0, .int .u8 0, .int .u8 0, .int .u8 0, .int .u8 0, .int .u8 0, .int .u8 0, .int .u8 0, .int .u8 0, .int .u8 0, .int .u8 0, .int .u8 0, .int .u8 0, .int .u8 0, .int .u8 0, .int .u8 0, .int .u8 0, .int .u8 0, .int .u8 0, .int .u8 0, .int .u8 0, .int .u8 0, .int .u8 0, .int .u8 0, .int .u8 0, .int .u8 0, .int .u8 0, .int .u8 0, .int .u8 0, .int .u8 0, .int .u8 0, .int .u8 0, .int .u8 0, .int .u8 0, .int .u8 0, .int .u8 0, .int .u8 0, .int .u8 0, .int .u8 0, .int .u8 0, .int .u8 0, .int .u8 0, .int .u8 0, .int .u8 0, .int .u8 0, .int .u8 0, .int .u8 0, .int .u8 0, .int .u8 0, .int .u8 0, .int .u8 0, .int .u8 0, .int .u8 0, .int .u8 0] 26)) := (Bx.nil w).newAt 0 (w.heap.size) (by simp) 26 sgZ _ rfl
  have hbz := bds0
  have HLZ : Hid (sgZ.length = 64) := rfl
  have HOZ : Hid (∀ v ∈ sgZ, v.oneCell' = true) := sgL_one z32 z32
  have HPI : Hid ((Tryd.prog.info? 26).map (·.size) = some sgZ.length) := info_sg
  clear hs
  go_enter Tryd.func9, Tryd.ntmps9
  go_wp2_with fail
  refine (one_any ao n cap xs _ (HSR.out.below hS.bl) (by omega)).mono ?_
  rintro e U1 ⟨a1, m1, c1, rfl, O1, LB⟩
  have hS := hS.below LB
  have HO1 := hide (one_bytes HB.out)
  have HEN : Hid ((oneS xs).2.2 ≠ 0 ∨ (oneS xs).2.2 = 0) := by unfold Hid; omega
  have HML : Hid ((oneS xs).2.1.length ≤ n ∨ (oneS xs).2.2 ≠ 0) := by
    unfold Hid
    by_cases h : (oneS xs).2.2 = 0
    · left
      have h1 := (HO1.out h).1
      have h2 : (putB ((oneS xs).1, (oneS xs).2.1)).length = n := by rw [h1]; exact HL.out
      unfold putB at h2
      simp at h2
      omega
    · exact .inr h
  obtain ⟨t, ht⟩ : ∃ t, (oneS xs).1 = t := ⟨_, rfl⟩
  obtain ⟨C, hC⟩ : ∃ C, (oneS xs).2.1 = C := ⟨_, rfl⟩
  obtain ⟨E, hE⟩ : ∃ E, (oneS xs).2.2 = E := ⟨_, rfl⟩
  rw [ht, hC, hE] at HO1
  rw [hC, hE] at HML
  rw [hE] at HEN
  rw [hC] at O1
  rw [ht, hE]
  clear ht hC hE LB
  have hS' : Bx w [(w.heap.size, 26, sgZ), (U1.heap.size, 70, [.int .i64 t, .slice a1 m1 c1])] (U1.alloc (.cells #[.int .i64 t, .slice a1 m1 c1] 70)) := hS.newAt 1 U1.heap.size rfl 70 [.int .i64 t, .slice a1 m1 c1] _ rfl
  have O1' := hide (O1.alloc (.cells #[.int .i64 t, .slice a1 m1 c1] 70))
  clear hS O1
  have hS := hS'
  clear hS'
  go_upto_region 2 with fail
  generalize U1.alloc (.cells #[.int .i64 t, .slice a1 m1 c1] 70) = U2 at hS O1' ⊢
  have HU1 : Hid (w.heap.size ≤ U1.heap.size) := hS.up _ (List.mem_cons_of_mem _ List.mem_cons_self)
  generalize U1.heap.size = g4 at hS O1' HU1 ⊢
  by_cases hE0 : E = 0
  · subst hE0
    have c40 := (hS.get 1 rfl).cell 0
    have c41 := (hS.get 1 rfl).cell 1
    simp only [List.getElem?_cons_zero, List.getElem?_cons_succ] at c40 c41
    by_cases ht : t = 48
    · have hbt : (t != 48) = false := by simp [ht]
      have hP := (HO1.out rfl)
      have HP1 : Hid (putB (48, C) = xs) := by unfold Hid; rw [← ht]; exact hP.1
      clear ht
      have HP2 := hide hP.2
      have s1 := hide (O1'.out.toSrc hP.2)
      have hm1 : m1 ≤ n := by
        have h1 := s1.out.hlen
        rcases HML.out with h | h
        · omega
        · exact absurd rfl h
      clear hP
      go_wp2_with fail
      refine (callsIn_wide.1 (all_in a1 m1 c1 C _ s1.out (by omega))).mono ?_
      rintro e U3 ⟨v, pl, err, rfl, ⟨A1, A2, A3⟩, LB⟩
      have hS := hS.below LB
      have HAL : Hid (C.length = m1) := s1.out.hlen
      have hB3 := hide LB
      clear LB c40 c41 A1
      by_cases hend : endS C (placesS C 0) < C.length
      · obtain ⟨rfl, rfl⟩ := A2 hend
        have hne := all_err HP2.out hend
        generalize (findS (C.drop (endS C (placesS C 0)))).2.2.2 = er at *
        have hbn : (er != 0) = true := by simpa using hne
        clear A2 A3
        have HNE := hide hne
        clear hne
        have hsz := stSg (hS.get 0 rfl) HLZ.out HLZ.out HOZ.out
        have hS' : Bx w [(w.heap.size, 26, sgZ), (g4, 70, [.int .i64 t, .slice a1 m1 c1])] (U3.setCells w.heap.size 0 sgZ) := hS.setAt 0 sgZ rfl rfl
        clear hS
        go_wp2
        generalize U3.setCells w.heap.size 0 sgZ = U9 at hS' ⊢
        refine bodyPost_ret (v := .tuple #[.agg sgZ.toArray, .int .i64 er]) ?_ rfl ⟨z32, z32, er, by rw [sgZ_eq], fun _ => ⟨rfl, rfl⟩, fun h => absurd h HNE.out, hS'.bl⟩
        exact res_two (T := 26) (p := 2) (q := 3) (ty := 26) (X := sgZ) (by kernel_rfl) _ _ rfl Tryd.underlying26 rfl HPI.out (hS'.get 0 rfl)
      · obtain ⟨rfl, cs, hrow, hmat, hnil, hap⟩ := A3 hend
        have hcat := all_bytes HP2.out hend
        have HCA := hide hcat.1
        have HDE := hide hcat.2
        clear A2 A3 hnil hap hcat hend
        have hlen : ((placesS C 0).map (elS C)).length = (placesS C 0).length := by simp
        generalize (placesS C 0).map (elS C) = es at *
        generalize (placesS C 0).length = K at *
        obtain ⟨aV, cV, rfl⟩ : ∃ aV cV, v = .slice aV K cV := by
          rcases hrow.2 with ⟨rfl, rfl⟩ | ⟨g, c, _, rfl, _⟩
          · exact ⟨_, _, rfl⟩
          · exact ⟨_, _, rfl⟩
        by_cases hK : K = 2
        · subst hK
          obtain ⟨ta, ya, tb, yb, rfl⟩ : ∃ ta ya tb yb, es = [(ta, ya), (tb, yb)] := by
            match es, hlen with
            | [(ta, ya), (tb, yb)], _ => exact ⟨ta, ya, tb, yb, rfl⟩
          obtain ⟨x0, n0, d0, g0a, g0b, o0⟩ := hmat.get 0 (by simp)
          obtain ⟨x1, n1, d1, g1a, g1b, o1⟩ := hmat.get 1 (by simp)
          obtain ⟨gV, rfl⟩ : ∃ gV, aV = some ⟨gV, 0, none⟩ := by
            rcases hrow.2 with ⟨h1, h2⟩ | ⟨g, c, _, h1, _⟩
            · omega
            · simp at h1; exact ⟨g, h1.1⟩
          have k0 := World.ownsRow.cells hrow (g := gV) rfl 0 _ g0a
          have k1 := World.ownsRow.cells hrow (g := gV) rfl 1 _ g0b
          have k2 := World.ownsRow.cells hrow (g := gV) rfl 2 _ g1a
          have k3 := World.ownsRow.cells hrow (g := gV) rfl 3 _ g1b
          rw [add_none] at k0 k1 k2 k3
          simp only [Nat.zero_add, List.getD_cons_zero, List.getD_cons_succ] at k0 k1 k2 k3 o0 o1
          have dya : Dg 256 ya := HDE.out (ta, ya) (by simp)
          have dyb : Dg 256 yb := HDE.out (tb, yb) (by simp)
          have sa := hide (o0.toSrc dya)
          have sb := hide (o1.toSrc dyb)
          have DYA := hide dya
          have DYB := hide dyb
          clear g0a g0b g1a g1b hrow hmat o0 o1 dya dyb hlen
          by_cases hta : ta = 2
          · by_cases htb : tb = 2
            · skip
              subst hta htb
              have HTA : Hid (natS (dcD ya) = ya ∧ (dcD ya).length = 32 ∧ Dg 256 (dcD ya) ∨ dcE ya ≠ 0) := by
                unfold Hid
                by_cases h : dcE ya = 0
                · exact .inl (nat_back DYA.out h)
                · exact .inr h
              have HTB : Hid (natS (dcD yb) = yb ∧ (dcD yb).length = 32 ∧ Dg 256 (dcD yb) ∨ dcE yb ≠ 0) := by
                unfold Hid
                by_cases h : dcE yb = 0
                · exact .inl (nat_back DYB.out h)
                · exact .inr h
              have HNA : Hid (ya.length ≤ n ∧ yb.length ≤ n) := by
                unfold Hid
                have h1 : (catS [((2 : Int), ya), (2, yb)]).length = m1 := by rw [HCA.out]; exact HAL.out
                simp [catS, putB] at h1
                omega
              have HLA := hide (dcD_len ya)
              have HLB := hide (dcD_len yb)
              have HFI : Hid (natS (dcD ya) = ya → natS (dcD yb) = yb → encB (dcD ya) (dcD yb) = xs) := fun h1 h2 => once_bytes HP1.out HCA.out rfl h1 h2
              have DA : Hid (∀ W, Src W x0 n0 d0 ya → Calls Tryd.prog 33 #[.slice x0 n0 d0] W (Ans (.tuple #[.agg (bV (dcD ya)).toArray, .int .i64 (dcE ya)]) W)) := fun W h => decoded_any x0 n0 d0 ya W h (by have h1 := h.hlen; have h2 := HNA.out; omega) (dg_toNat DYA.out)
              have DB : Hid (∀ W, Src W x1 n1 d1 yb → Calls Tryd.prog 33 #[.slice x1 n1 d1] W (Ans (.tuple #[.agg (bV (dcD yb)).toArray, .int .i64 (dcE yb)]) W)) := fun W h => decoded_any x1 n1 d1 yb W h (by have h1 := h.hlen; have h2 := HNA.out; omega) (dg_toNat DYB.out)
              have hgl := lt_of_cell k0
              generalize dcD ya = RA at *
              generalize dcD yb = RB at *
              generalize dcE ya = EA at *
              generalize dcE yb = EB at *
              go_wp2_with fail
              refine (DA.out _ sa.out).mono ?_
              rintro e V1 ⟨rfl, LB⟩
              have hS := hS.below LB
              have k3 := (LB.cell (p := ⟨gV, 3, none⟩) hgl).trans k3
              have sb := hide (sb.out.below LB)
              have hst := stDgn V1 HLA.out
              have hS' : Bx w [(w.heap.size, 26, sgZ), (g4, 70, [.int .i64 t, .slice a1 m1 c1]), (V1.heap.size, 24, bV RA)] (V1.alloc (.cells (bV RA).toArray 24)) := hS.newAt 2 V1.heap.size rfl 24 (bV RA) _ rfl
              have hgl1 : gV < V1.heap.size := Nat.lt_of_lt_of_le hgl LB.size
              have k3 : (V1.alloc (.cells (bV RA).toArray 24)).cell? ⟨gV, 3, none⟩ = some (.slice x1 n1 d1) := (World.cell?_alloc_lt _ _ _ hgl1).trans k3
              have sb := hide (sb.out.alloc (.cells (bV RA).toArray 24))
              clear hS LB k0 k1 k2
              have hS := hS'
              clear hS'
              go_upto_region 12 with fail
              generalize V1.alloc (.cells (bV RA).toArray 24) = V2 at hS k3 sb ⊢
              generalize V1.heap.size = g8 at hS ⊢
              clear hst hgl hgl1
              by_cases hea : EA = 0
              · subst hea
                go_wp2_with fail
                refine (DB.out _ sb.out).mono ?_
                rintro e V3 ⟨rfl, LB⟩
                have hS := hS.below LB
                have hst := stDgn V3 HLB.out
                have hS' : Bx w [(w.heap.size, 26, sgZ), (g4, 70, [.int .i64 t, .slice a1 m1 c1]), (g8, 24, bV RA), (V3.heap.size, 24, bV RB)] (V3.alloc (.cells (bV RB).toArray 24)) := hS.newAt 3 V3.heap.size rfl 24 (bV RB) _ rfl
                clear hS LB k3
                have hS := hS'
                clear hS'
                go_upto_region 15 with fail
                generalize V3.alloc (.cells (bV RB).toArray 24) = V4 at hS ⊢
                generalize V3.heap.size = g9 at hS ⊢
                clear hst
                by_cases heb : EB = 0
                · subst heb
                  have pA : natS RA = ya ∧ RA.length = 32 ∧ Dg 256 RA := HTA.out.elim id (fun h => absurd rfl h)
                  have pB : natS RB = yb ∧ RB.length = 32 ∧ Dg 256 RB := HTB.out.elim id (fun h => absurd rfl h)
                  have HEN2 := hide (HFI.out pA.1 pB.1)
                  have PA := hide pA
                  have PB := hide pB
                  have l8 := ldDd HLA.out (hS.get 2 rfl)
                  have l9 := ldDd HLB.out (hS.get 3 rfl)
                  have hb2 := bds2 RA RB HLA.out HLB.out
                  have hsl : (sgL RA RB).length = 64 := sgL_len HLA.out HLB.out
                  have hs2 := stSg (hS.get 0 rfl) HLZ.out hsl (sgL_one RA RB)
                  have hS' : Bx w [(w.heap.size, 26, sgL RA RB), (g4, 70, [.int .i64 t, .slice a1 m1 c1]), (g8, 24, bV RA), (g9, 24, bV RB)] (V4.setCells w.heap.size 0 (sgL RA RB)) := hS.setAt 0 (sgL RA RB) rfl (by rw [HLZ.out, hsl])
                  have HSI : Hid ((Tryd.prog.info? 26).map (·.size) = some (sgL RA RB).length) := by unfold Hid; rw [hsl]; exact info_sg
                  clear hS pA pB hsl
                  go_wp2
                  generalize V4.setCells w.heap.size 0 (sgL RA RB) = V9 at hS' ⊢
                  refine bodyPost_ret (v := .tuple #[.agg (sgL RA RB).toArray, .int .i64 0]) ?_ rfl ⟨RA, RB, 0, rfl, fun h => absurd rfl h, fun _ => ⟨PA.out.2.1, PB.out.2.1, PA.out.2.2, PB.out.2.2, HEN2.out⟩, hS'.bl⟩
                  exact res_two (T := 26) (p := 2) (q := 3) (ty := 26) (X := sgL RA RB) (by kernel_rfl) _ _ rfl Tryd.underlying26 rfl HSI.out (hS'.get 0 rfl)
                · have hbn : (EB != 0) = true := by simpa using heb
                  have HNE := hide heb
                  clear heb
                  have hsz := stSg (hS.get 0 rfl) HLZ.out HLZ.out HOZ.out
                  have hS' : Bx w [(w.heap.size, 26, sgZ), (g4, 70, [.int .i64 t, .slice a1 m1 c1]), (g8, 24, bV RA), (g9, 24, bV RB)] (V4.setCells w.heap.size 0 sgZ) := hS.setAt 0 sgZ rfl rfl
                  clear hS
                  go_wp2
                  generalize V4.setCells w.heap.size 0 sgZ = U9 at hS' ⊢
                  refine bodyPost_ret (v := .tuple #[.agg sgZ.toArray, .int .i64 EB]) ?_ rfl ⟨z32, z32, EB, by rw [sgZ_eq], fun _ => ⟨rfl, rfl⟩, fun h => absurd h HNE.out, hS'.bl⟩
                  exact res_two (T := 26) (p := 2) (q := 3) (ty := 26) (X := sgZ) (by kernel_rfl) _ _ rfl Tryd.underlying26 rfl HPI.out (hS'.get 0 rfl)
              · have hbn : (EA != 0) = true := by simpa using hea
                have HNE := hide hea
                clear hea
                have hsz := stSg (hS.get 0 rfl) HLZ.out HLZ.out HOZ.out
                have hS' : Bx w [(w.heap.size, 26, sgZ), (g4, 70, [.int .i64 t, .slice a1 m1 c1]), (g8, 24, bV RA)] (V2.setCells w.heap.size 0 sgZ) := hS.setAt 0 sgZ rfl rfl
                clear hS
                go_wp2
                generalize V2.setCells w.heap.size 0 sgZ = U9 at hS' ⊢
                refine bodyPost_ret (v := .tuple #[.agg sgZ.toArray, .int .i64 EA]) ?_ rfl ⟨z32, z32, EA, by rw [sgZ_eq], fun _ => ⟨rfl, rfl⟩, fun h => absurd h HNE.out, hS'.bl⟩
                exact res_two (T := 26) (p := 2) (q := 3) (ty := 26) (X := sgZ) (by kernel_rfl) _ _ rfl Tryd.underlying26 rfl HPI.out (hS'.get 0 rfl)
            · have hbn : (tb != 2) = true := by simpa using htb
              have hsz := stSg (hS.get 0 rfl) HLZ.out HLZ.out HOZ.out
              have hS' : Bx w [(w.heap.size, 26, sgZ), (g4, 70, [.int .i64 t, .slice a1 m1 c1])] (U3.setCells w.heap.size 0 sgZ) := hS.setAt 0 sgZ rfl rfl
              clear hS
              go_wp2
              generalize U3.setCells w.heap.size 0 sgZ = U9 at hS' ⊢
              refine bodyPost_ret (v := .tuple #[.agg sgZ.toArray, .int .i64 20]) ?_ rfl ⟨z32, z32, 20, by rw [sgZ_eq], fun _ => ⟨rfl, rfl⟩, fun h => absurd h (by decide), hS'.bl⟩
              exact res_two (T := 26) (p := 2) (q := 3) (ty := 26) (X := sgZ) (by kernel_rfl) _ _ rfl Tryd.underlying26 rfl HPI.out (hS'.get 0 rfl)
          · have hbn : (ta != 2) = true := by simpa using hta
            have hsz := stSg (hS.get 0 rfl) HLZ.out HLZ.out HOZ.out
            have hS' : Bx w [(w.heap.size, 26, sgZ), (g4, 70, [.int .i64 t, .slice a1 m1 c1])] (U3.setCells w.heap.size 0 sgZ) := hS.setAt 0 sgZ rfl rfl
            clear hS
            go_wp2
            generalize U3.setCells w.heap.size 0 sgZ = U9 at hS' ⊢
            refine bodyPost_ret (v := .tuple #[.agg sgZ.toArray, .int .i64 20]) ?_ rfl ⟨z32, z32, 20, by rw [sgZ_eq], fun _ => ⟨rfl, rfl⟩, fun h => absurd h (by decide), hS'.bl⟩
            exact res_two (T := 26) (p := 2) (q := 3) (ty := 26) (X := sgZ) (by kernel_rfl) _ _ rfl Tryd.underlying26 rfl HPI.out (hS'.get 0 rfl)
        · have hbn : ((K : Int) != 2) = true := by simp; omega
          clear hrow hmat hlen
          have hsz := stSg (hS.get 0 rfl) HLZ.out HLZ.out HOZ.out
          have hS' : Bx w [(w.heap.size, 26, sgZ), (g4, 70, [.int .i64 t, .slice a1 m1 c1])] (U3.setCells w.heap.size 0 sgZ) := hS.setAt 0 sgZ rfl rfl
          clear hS
          go_wp2
          generalize U3.setCells w.heap.size 0 sgZ = U9 at hS' ⊢
          refine bodyPost_ret (v := .tuple #[.agg sgZ.toArray, .int .i64 20]) ?_ rfl ⟨z32, z32, 20, by rw [sgZ_eq], fun _ => ⟨rfl, rfl⟩, fun h => absurd h (by decide), hS'.bl⟩
          exact res_two (T := 26) (p := 2) (q := 3) (ty := 26) (X := sgZ) (by kernel_rfl) _ _ rfl Tryd.underlying26 rfl HPI.out (hS'.get 0 rfl)
    · have hbn : (t != 48) = true := by simpa using ht
      have hsz := stSg (hS.get 0 rfl) HLZ.out HLZ.out HOZ.out
      have hS' : Bx w [(w.heap.size, 26, sgZ), (g4, 70, [.int .i64 t, .slice a1 m1 c1])] (U2.setCells w.heap.size 0 sgZ) := hS.setAt 0 sgZ rfl rfl
      clear hS
      go_wp2
      generalize U2.setCells w.heap.size 0 sgZ = U9 at hS' ⊢
      refine bodyPost_ret (v := .tuple #[.agg sgZ.toArray, .int .i64 20]) ?_ rfl ⟨z32, z32, 20, by rw [sgZ_eq], fun _ => ⟨rfl, rfl⟩, fun h => absurd h (by decide), hS'.bl⟩
      exact res_two (T := 26) (p := 2) (q := 3) (ty := 26) (X := sgZ) (by kernel_rfl) _ _ rfl Tryd.underlying26 rfl HPI.out (hS'.get 0 rfl)
  · have hbn : (E != 0) = true := by simpa using hE0
    have HNE := hide hE0
    clear hE0
    have hsz := stSg (hS.get 0 rfl) HLZ.out HLZ.out HOZ.out
    have hS' : Bx w [(w.heap.size, 26, sgZ), (g4, 70, [.int .i64 t, .slice a1 m1 c1])] (U2.setCells w.heap.size 0 sgZ) := hS.setAt 0 sgZ rfl rfl
    clear hS
    go_wp2
    generalize U2.setCells w.heap.size 0 sgZ = U9 at hS' ⊢
    refine bodyPost_ret (v := .tuple #[.agg sgZ.toArray, .int .i64 E]) ?_ rfl ⟨z32, z32, E, by rw [sgZ_eq], fun _ => ⟨rfl, rfl⟩, fun h => absurd h HNE.out, hS'.bl⟩
    exact res_two (T := 26) (p := 2) (q := 3) (ty := 26) (X := sgZ) (by kernel_rfl) _ _ rfl Tryd.underlying26 rfl HPI.out (hS'.get 0 rfl)

end Go.Proofs.YtnabmdpgibnkaabDoor
