/-
  curve.Sum: the sum of a row of points.
  A row of points that is made of two points, or of three.
-/
import Derived.Test.YtcijjmncilciiaaDoorZEcEToCvMl
import Derived.Deep.DeepCutAuto
namespace Go.Proofs.YtcijjmncilciiaaDoor
open Go.RowKit Go.IntWalk
attribute [local go_sem ↓] ld_num st_num ld_pln st_pln ld_ops st_ops ld_pnt st_pnt ld_dig st_dig ld_tri st_tri eq_num ne_num eq_pnt ne_pnt bd_pnt

/-- A row of points: its cells; whether all are points of the curve; their sum. -/
def pCs (ps : List (List Int × List Int × Bool)) : List Value := (ps.map fun p => pL p.1 p.2.1 p.2.2).flatten
def pOk (ps : List (List Int × List Int × Bool)) : Prop := ∀ p ∈ ps, p.1.length = 32 ∧ p.2.1.length = 32 ∧ Dg 256 p.1 ∧ Dg 256 p.2.1
def allOn (ps : List (List Int × List Int × Bool)) : Bool := ps.all fun p => onP p.1 p.2.1 p.2.2
def sumQ (ps : List (List Int × List Int × Bool)) : Option (Int × Int) := ps.foldl (fun q p => padd q (ptOf p.1 p.2.1 p.2.2)) none
def suL (ps : List (List Int × List Int × Bool)) : List Value := if allOn ps = true then pL (encX (sumQ ps)) (encY (sumQ ps)) (encF (sumQ ps)) else PZ
def suE (ps : List (List Int × List Int × Bool)) : Int := if allOn ps = true then 0 else 100

theorem pCs_len : ∀ {ps : List (List Int × List Int × Bool)}, pOk ps → (pCs ps).length = 65 * ps.length
  | [], _ => rfl
  | p :: t, h => by
    have hp := h p (by simp)
    have ht := pCs_len (ps := t) (fun q hq => h q (by simp [hq]))
    unfold pCs at *
    rw [List.map_cons, List.flatten_cons, List.length_append, pL_len hp.1 hp.2.1, ht, List.length_cons]
    omega
theorem pCs_at {ps : List (List Int × List Int × Bool)} (h : pOk ps) (i : Nat) {p : List Int × List Int × Bool} (hi : ps[i]? = some p) : ∃ A C, pCs ps = A ++ pL p.1 p.2.1 p.2.2 ++ C ∧ A.length = 65 * i := by
  obtain ⟨hl, he⟩ := List.getElem?_eq_some_iff.1 hi
  have e : ps = ps.take i ++ p :: ps.drop (i + 1) := by rw [← he, ← List.drop_eq_getElem_cons hl, List.take_append_drop]
  refine ⟨pCs (ps.take i), pCs (ps.drop (i + 1)), ?_, ?_⟩
  · conv => lhs; rw [e]
    unfold pCs
    rw [List.map_append, List.flatten_append, List.map_cons, List.flatten_cons, List.append_assoc]
  · rw [pCs_len (fun q hq => h q (List.mem_of_mem_take hq)), List.length_take, Nat.min_eq_left (by omega)]
theorem sumQ_take {ps : List (List Int × List Int × Bool)} {i : Nat} {p : List Int × List Int × Bool} (hi : ps[i]? = some p) : sumQ (ps.take (i + 1)) = padd (sumQ (ps.take i)) (ptOf p.1 p.2.1 p.2.2) := by
  obtain ⟨hl, he⟩ := List.getElem?_eq_some_iff.1 hi
  unfold sumQ
  rw [List.take_succ_eq_append_getElem hl, List.foldl_append, he]
  rfl
theorem allOn_take {ps : List (List Int × List Int × Bool)} {i : Nat} {p : List Int × List Int × Bool} (hi : ps[i]? = some p) (h : allOn (ps.take i) = true) (hp : onP p.1 p.2.1 p.2.2 = true) : allOn (ps.take (i + 1)) = true := by
  obtain ⟨hl, he⟩ := List.getElem?_eq_some_iff.1 hi
  unfold allOn at *
  rw [List.take_succ_eq_append_getElem hl, List.all_append, h, he]
  simp [hp]
theorem allOn_no {ps : List (List Int × List Int × Bool)} {i : Nat} {p : List Int × List Int × Bool} (hi : ps[i]? = some p) (hp : onP p.1 p.2.1 p.2.2 = false) : allOn ps = false := by
  unfold allOn
  rw [List.all_eq_false]
  exact ⟨p, List.mem_of_getElem? hi, by simp [hp]⟩

/-- A slice that leads to these points. -/
def Pts (w : World) (ao : Option Addr) (ps : List (List Int × List Int × Bool)) : Prop := (ps = [] ∧ ao = none) ∨ ∃ g, ao = some ⟨g, 0, none⟩ ∧ Blk 25 w g (pCs ps)

/-- Where Sum is. -/
def SuAt (w : World) (ps : List (List Int × List Int × Bool)) (g4 g5 i : Nat) (W : World) : Prop :=
  allOn (ps.take i) = true ∧ ∃ x y z, RepP x y z (sumQ (ps.take i)) ∧ Bx w [(w.heap.size, 25, PZ), (g4, 67, doL), (g5, 72, t3 x y z)] W

theorem stPn (w : World) {X Y : List Int} {f : Bool} (hX : X.length = 32) (hY : Y.length = 32) : (stA 25 (.pointer (some ⟨w.heap.size, 0, none⟩)) (.agg (pL X Y f).toArray)).run Tryd.prog (w.alloc (.cells Tryd.zeroCells25 25)) = .ok () (w.alloc (.cells (pL X Y f).toArray 25)) :=
  run_storeAt_new (P := Tryd.prog) w 25 _ (pL X Y f).toArray (by rw [List.size_toArray, pL_len hX hY]; exact info_pnt) (by rw [zc_pnt]; simp [pL_len hX hY, PZ, pL_len (X := z32) (Y := z32) rfl rfl]) (all_oneCell_toArray (pL_one X Y f))

set_option maxRecDepth 100000 in
set_option maxHeartbeats 4000000 in
theorem sum_any' (ao : Option Addr) (ps : List (List Int × List Int × Bool)) (hok : pOk ps) (hn : ps.length ≤ 1000) (w : World) (hs : Pts w ao ps) (hC : Cv w) :
    Calls Tryd.prog 9 #[.slice ao ps.length ps.length] w (Ans (.tuple #[.agg (suL ps).toArray, .int .i64 (suE ps)]) w) := by
  have HC := hide hC
  have HOK := hide hok
  have HP := hide hs
  have hS : Bx w [(w.heap.size, 25, PZ)] (w.alloc (.cells Tryd.zeroCells25 25)) := (Bx.nil w).newAt 0 (w.heap.size) (by simp) 25 PZ _ zc_pnt
  have HF : Hid (∀ W, Cv W → Calls Tryd.prog 28 #[] W (Ans (.agg (t3 0 ONE 0).toArray) W)) := fun W hW => by rw [← farL_t3]; exact far_any W hW
  obtain ⟨n, hlen⟩ : ∃ n, ps.length = n := ⟨_, rfl⟩
  have HL := hide hlen
  rw [hlen] at hn ⊢
  clear hok hs hC hlen
  go_enter Tryd.func9, Tryd.ntmps9
  go_wp2_with fail
  refine (opsN _ (HC.out.below hS.bl)).mono ?_
  rintro e U1 ⟨rfl, LB⟩
  have hS := hS.below LB
  have hst := stDo U1
  have hS' : Bx w [(w.heap.size, 25, PZ), (U1.heap.size, 67, doL)] (U1.alloc (.cells doL.toArray 67)) := hS.newAt 1 U1.heap.size rfl 67 doL _ rfl
  clear hS LB
  have hS := hS'
  clear hS'
  go_upto_region 2 with fail
  generalize U1.alloc (.cells doL.toArray 67) = U2 at hS ⊢
  generalize U1.heap.size = g4 at hS ⊢
  clear hst
  go_wp2_with fail
  refine (HF.out _ (HC.out.below hS.bl)).mono ?_
  rintro e U3 ⟨rfl, LB⟩
  have hS := hS.below LB
  have hst := sttn U3 0 ONE 0
  have hS' : SuAt w ps g4 U3.heap.size 0 (U3.alloc (.cells (t3 0 ONE 0).toArray 72)) := ⟨rfl, 0, ONE, 0, far_repP, hS.newAt 2 U3.heap.size rfl 72 (t3 0 ONE 0) _ rfl⟩
  clear hS LB
  have HS0 := hide hS'
  clear hS'
  go_upto_region 3 with fail
  generalize U3.alloc (.cells (t3 0 ONE 0).toArray 72) = U4 at HS0 ⊢
  generalize U3.heap.size = g5 at HS0 ⊢
  clear hst
  go_wp2
  go_loopw [7, 8, 9, 14] (fun _ _ _ iv wr => ∃ (i : Nat), iv = .int .i64 (i : Int) ∧ i ≤ n ∧ Hid (SuAt w ps g4 g5 i wr)) (fun _ _ _ iv _ => n - (intOf iv).toNat)
  case atStart => exact ⟨0, rfl, by omega, HS0⟩
  case round =>
    clear HS0
    obtain ⟨i, rfl, hi, HS⟩ := hrel
    obtain ⟨hall, x, y, z, hR, hS⟩ := HS.out
    have HR := hide hR
    have HA := hide hall
    clear hR hall HS
    by_cases hin : i < n
    · obtain ⟨p, hp⟩ : ∃ p, ps[i]? = some p := ⟨ps[i]'(by rw [HL.out]; exact hin), List.getElem?_eq_getElem _⟩
      obtain ⟨X, Y, f⟩ := p
      have hXY := HOK.out _ (List.mem_of_getElem? hp)
      have hX : X.length = 32 := hXY.1
      have hY : Y.length = 32 := hXY.2.1
      have dX : Dg 256 X := hXY.2.2.1
      have dY : Dg 256 Y := hXY.2.2.2
      obtain ⟨g, hg, hB⟩ : ∃ g, ao = some ⟨g, 0, none⟩ ∧ Blk 25 w g (pCs ps) := by
        rcases HP.out with ⟨e, _⟩ | h
        · rw [e] at hp; simp at hp
        · exact h
      subst hg
      obtain ⟨A, C, hpc, hA⟩ := pCs_at HOK.out i hp
      have hBr := hB.below hS.bl
      rw [hpc] at hBr
      have hld : (ldA 25 (.pointer (some ⟨g, i * 65, none⟩))).run Tryd.prog wr = .ok (.agg (pL X Y f).toArray) wr := ldA_mid (A := A) (X := pL X Y f) (C := C) Tryd.underlying25 rfl (by rw [pL_len hX hY]; exact info_pnt) hBr (by rw [hA]; omega)
      have hst := stPn wr (f := f) hX hY
      have ib : (i : Int) ≤ 999 := by omega
      have inn : (i : Int) < (n : Int) := by omega
      have hS' : Bx w [(w.heap.size, 25, PZ), (g4, 67, doL), (g5, 72, t3 x y z), (wr.heap.size, 25, pL X Y f)] (wr.alloc (.cells (pL X Y f).toArray 25)) := hS.newAt 3 wr.heap.size rfl 25 (pL X Y f) _ rfl
      have HX := hide hX
      have HY := hide hY
      have HHP := hide hp
      clear hS hBr hB hpc hA hp hXY
      have hS := hS'
      clear hS'
      go_upto_region 6 with fail
      generalize wr.alloc (.cells (pL X Y f).toArray 25) = V1 at hS ⊢
      generalize wr.heap.size = g7 at hS ⊢
      clear hld hst
      have hl7 := (pnt_ld HX.out HY.out (hS.get 3 rfl)).1
      have hl4 := ldD (hS.get 1 rfl)
      cases hon : onP X Y f with
      | false =>
        have HSP : Hid (∀ W, Cv W → Calls Tryd.prog 29 #[.agg (pL X Y f).toArray, .agg doL.toArray] W (fun e w' => ∃ L : List Value, e = .returned (.tuple #[.agg L.toArray, .bool false]) ∧ L.length = 12 ∧ (∀ v ∈ L, v.oneCell' = true) ∧ Below W.heap.size W w')) := fun W hW => spreadNo hX hY dX dY hon W hW
        have hno := allOn_no HHP.out hon
        have HSL : Hid (suL ps = PZ ∧ suE ps = 100) := by unfold Hid suL suE; rw [hno]; exact ⟨rfl, rfl⟩
        clear hX hY dX dY hon hno
        go_wp2_with fail
        refine (HSP.out _ (HC.out.below hS.bl)).mono ?_
        rintro e V2 ⟨L, rfl, hL, h1, LB⟩
        have hS := hS.below LB
        have hst := stLn V2 L hL h1
        have hS' : Bx w [(w.heap.size, 25, PZ), (g4, 67, doL), (g5, 72, t3 x y z), (g7, 25, pL X Y f), (V2.heap.size, 72, L)] (V2.alloc (.cells L.toArray 72)) := hS.newAt 4 V2.heap.size rfl 72 L _ rfl
        clear hS LB hl7 hl4 hL h1
        have hS := hS'
        clear hS'
        go_upto_region 7 with fail
        generalize V2.alloc (.cells L.toArray 72) = V3 at hS ⊢
        generalize V2.heap.size = g8 at hS ⊢
        clear hst
        have hbz : ∀ W : World, (bdA 25 #[]).run Tryd.prog W = .ok (.agg PZ.toArray) W := fun W => by kernel_rfl
        have hsz : (stA 25 (.pointer (some ⟨w.heap.size, 0, none⟩)) (.agg PZ.toArray)).run Tryd.prog V3 = .ok () (V3.setCells w.heap.size 0 PZ) := stPt (f := false) (X := z32) (Y := z32) rfl rfl (hS.get 0 rfl) rfl
        have hS' : Bx w [(w.heap.size, 25, PZ), (g4, 67, doL), (g5, 72, t3 x y z), (g7, 25, pL X Y f), (g8, 72, L)] (V3.setCells w.heap.size 0 PZ) := hS.setAt 0 PZ rfl rfl
        have HPI : Hid ((Tryd.prog.info? 25).map (·.size) = some PZ.length) := info_pnt
        clear hS
        generalize PZ = LZ at *
        go_wp2
        generalize V3.setCells w.heap.size 0 LZ = V4 at hS' ⊢
        refine bodyPost_ret (v := .tuple #[.agg LZ.toArray, .int .i64 100]) ?_ rfl ⟨by rw [HSL.out.1, HSL.out.2], hS'.bl⟩
        exact res_two (T := 25) (p := 2) (q := 3) (ty := 25) (X := LZ) (by kernel_rfl) _ _ rfl Tryd.underlying25 rfl HPI.out (hS'.get 0 rfl)
      | true =>
        have HSP : Hid (∀ W, Cv W → Calls Tryd.prog 29 #[.agg (pL X Y f).toArray, .agg doL.toArray] W (Ans (.tuple #[.agg (t3 (sx X f) (sy Y f) (sz f)).toArray, .bool true]) W)) := fun W hW => spreadN hX hY dX dY hon W hW
        have HRS := hide (spread_rep hX hY dX dY hon)
        have HA' := hide (allOn_take HHP.out HA.out hon)
        have HQ := hide (sumQ_take HHP.out)
        clear hX hY dX dY hon
        generalize sx X f = xa at *
        generalize sy Y f = ya at *
        generalize sz f = za at *
        go_wp2_with fail
        refine (HSP.out _ (HC.out.below hS.bl)).mono ?_
        rintro e V2 ⟨rfl, LB⟩
        have hS := hS.below LB
        have hst := sttn V2 xa ya za
        have hS' : Bx w [(w.heap.size, 25, PZ), (g4, 67, doL), (g5, 72, t3 x y z), (g7, 25, pL X Y f), (V2.heap.size, 72, t3 xa ya za)] (V2.alloc (.cells (t3 xa ya za).toArray 72)) := hS.newAt 4 V2.heap.size rfl 72 (t3 xa ya za) _ rfl
        clear hS LB hl7 hl4
        have hS := hS'
        clear hS'
        go_upto_region 7 with fail
        generalize V2.alloc (.cells (t3 xa ya za).toArray 72) = V3 at hS ⊢
        generalize V2.heap.size = g8 at hS ⊢
        clear hst
        have hl5 := ldt (hS.get 2 rfl)
        have hl8 := ldt (hS.get 4 rfl)
        have hl4 := ldD (hS.get 1 rfl)
        go_wp2_with fail
        refine (sum_rep HR.out HRS.out _).mono ?_
        rintro e V4 ⟨x5, y5, z5, rfl, hR5, LB⟩
        have hS := hS.below LB
        have hst := stt (hS.get 2 rfl) rfl x5 y5 z5
        have HM : Hid (SuAt w ps g4 g5 (i + 1) (V4.setCells g5 0 (t3 x5 y5 z5))) := ⟨HA'.out, x5, y5, z5, by rw [HQ.out]; exact hR5, (hS.setAt 2 (t3 x5 y5 z5) rfl rfl).pre 3⟩
        clear LB hS hl5 hl8 hl4 hR5
        go_wp2
        go_roundw
        case rel => exact ⟨i + 1, by go_num, by omega, HM⟩
        case measure => simp [intOf]; omega
    · obtain rfl : i = n := by omega
      have hR := HR.out
      have hA := HA.out
      rw [List.take_of_length_le (by rw [HL.out]; omega)] at hR hA
      have HSL : Hid (suL ps = pL (encX (sumQ ps)) (encY (sumQ ps)) (encF (sumQ ps)) ∧ suE ps = 0) := by unfold Hid suL suE; rw [hA]; exact ⟨rfl, rfl⟩
      generalize sumQ ps = Q at *
      have HQX := hide (encX_len Q)
      have HQY := hide (encY_len Q)
      have HRQ := hide hR
      have hl5 := ldt (hS.get 2 rfl)
      have hl4 := ldD (hS.get 1 rfl)
      clear hR hA HR HA
      go_wp2_with fail
      refine (gath_rep HRQ.out _ (HC.out.below hS.bl)).mono ?_
      rintro e V1 ⟨rfl, LB⟩
      have hS := hS.below LB
      have hst := stPt (X := encX Q) (Y := encY Q) (f := encF Q) HQX.out HQY.out (hS.get 0 rfl) rfl
      have hS' : Bx w [(w.heap.size, 25, pL (encX Q) (encY Q) (encF Q)), (g4, 67, doL), (g5, 72, t3 x y z)] (V1.setCells w.heap.size 0 (pL (encX Q) (encY Q) (encF Q))) := hS.setAt 0 (pL (encX Q) (encY Q) (encF Q)) rfl (by rw [pL_len HQX.out HQY.out]; rfl)
      clear hS LB hl5 hl4
      go_wp2
      generalize V1.setCells w.heap.size 0 (pL (encX Q) (encY Q) (encF Q)) = V2 at hS' ⊢
      refine bodyPost_ret (v := .tuple #[.agg (pL (encX Q) (encY Q) (encF Q)).toArray, .int .i64 0]) ?_ rfl ⟨by rw [HSL.out.1, HSL.out.2], hS'.bl⟩
      exact res_two (T := 25) (p := 2) (q := 3) (ty := 25) (X := pL (encX Q) (encY Q) (encF Q)) (by kernel_rfl) _ _ rfl Tryd.underlying25 rfl (by rw [pL_len HQX.out HQY.out]; exact info_pnt) (hS'.get 0 rfl)

end Go.Proofs.YtcijjmncilciiaaDoor

namespace Go.Proofs.YtcijjmncilciiaaDoor
open Go.RowKit Go.IntWalk

def bsA (t : TypeId) (n : Nat) (ps : Array (Nat × Value)) : Sem Value := Instr.buildSlice t n ps
theorem bs_pts (n : Nat) (ps : Array (Nat × Value)) : Instr.buildSlice 63 n ps = bsA 63 n ps := rfl

theorem fold_set : ∀ (L : List Value) (n off : Nat) (A X C : List Value), off + n = A.length → X.length = L.length →
    (L.zipIdx n).foldl (fun (cs : Array Value) (p : Value × Nat) => cs.setIfInBounds (off + p.2) p.1) (A ++ X ++ C).toArray = (A ++ L ++ C).toArray
  | [], _, _, A, X, C, _, hx => by
    obtain rfl : X = [] := by simpa using hx
    rfl
  | c :: L, n, off, A, X, C, ho, hx => by
    obtain ⟨x, X', rfl⟩ : ∃ x X', X = x :: X' := by cases X with | nil => simp at hx | cons x X' => exact ⟨x, X', rfl⟩
    rw [List.zipIdx_cons, List.foldl_cons]
    have e : (A ++ x :: X' ++ C).toArray.setIfInBounds (off + n) c = ((A ++ [c]) ++ X' ++ C).toArray := by
      rw [ho, List.setIfInBounds_toArray]
      congr 1
      simp
    have IH := fold_set L (n + 1) off (A ++ [c]) X' C (by simp; omega) (by simpa using hx)
    show (L.zipIdx (n + 1)).foldl _ ((A ++ x :: X' ++ C).toArray.setIfInBounds (off + n) c) = _
    rw [e, IH]
    simp

theorem fill_step (sz : Nat) (cells : List Value) (A X C : List Value) (hc : cells = A ++ X ++ C) (i : Nat) (hA : A.length = i * sz) (hX : X.length = sz) (L : List Value) (hL : L.length = sz) (rest : List (Nat × Value)) :
    Instr.fill (fun i => some (i * sz, sz)) cells.toArray ((i, .agg L.toArray) :: rest) = Instr.fill (fun i => some (i * sz, sz)) (A ++ L ++ C).toArray rest := by
  subst hc
  rw [Instr.fill]
  dsimp only
  have h1 : (Value.agg L.toArray).cells.size = sz := by show L.toArray.size = sz; simpa using hL
  rw [if_neg (by rw [h1]; simp [hA, hX])]
  congr 1
  show Array.foldl _ _ L.toArray.zipIdx = _
  have := fold_set L 0 (i * sz) A X C (by rw [hA]; rfl) (by rw [hX, hL])
  rw [← this]
  simp

theorem zs_split (Z : List Value) (n : Nat) (h : Z.length = 65 + n) : ∃ X C, Z = X ++ C ∧ X.length = 65 ∧ C.length = n := ⟨Z.take 65, Z.drop 65, (List.take_append_drop _ _).symm, by simp; omega, by simp; omega⟩

theorem bs_run (n : Nat) (ps : List (Nat × Value)) (out : List Value) (hn : n = 2 ∨ n = 3) (hf : ∀ Z : List Value, Z.length = 65 * n → Instr.fill (fun i => some (i * 65, 65)) Z.toArray ps = some out.toArray) (w : World) :
    (bsA 63 n ps.toArray).run Tryd.prog w = .ok (.slice (some ⟨w.heap.size, 0, none⟩) n n) (w.alloc (.cells out.toArray 25)) := by
  have hs : (sizeOf 25).run Tryd.prog w = .ok 65 w := by kernel_rfl
  unfold bsA Instr.buildSlice
  have hlt : ¬ n * 65 > 2 ^ 24 := by omega
  have hne : ¬ n * 65 = 0 := by omega
  have hfz : Instr.fill (fun i => some (i * 65, 65)) (Array.map (fun x => (Value.agg Tryd.zeroCells25).cells[x % (Value.agg Tryd.zeroCells25).cells.size]!) (Array.range (n * 65))) ps = some out.toArray := by
    have := hf (Array.map (fun x => (Value.agg Tryd.zeroCells25).cells[x % (Value.agg Tryd.zeroCells25).cells.size]!) (Array.range (n * 65))).toList (by rw [Array.length_toList, Array.size_map, Array.size_range]; omega)
    rw [Array.toArray_toList] at this
    exact this
  simp [Sem.run_bind, run_underlying Tryd.underlying63, hs, hlt, hne]
  rw [hfz]
  rfl

theorem bs2 (L1 L2 : List Value) (h1 : L1.length = 65) (h2 : L2.length = 65) (w : World) :
    (bsA 63 2 #[(0, .agg L1.toArray), (1, .agg L2.toArray)]).run Tryd.prog w = .ok (.slice (some ⟨w.heap.size, 0, none⟩) 2 2) (w.alloc (.cells (L1 ++ L2).toArray 25)) := by
  refine bs_run 2 [(0, .agg L1.toArray), (1, .agg L2.toArray)] (L1 ++ L2) (.inl rfl) ?_ w
  intro Z hZ
  obtain ⟨X, C, rfl, hX, hC⟩ := zs_split Z 65 hZ
  rw [fill_step 65 (X ++ C) [] X C (by simp) 0 (by simp) hX L1 h1, fill_step 65 ([] ++ L1 ++ C) L1 C [] (by simp) 1 (by simpa using h1) hC L2 h2, Instr.fill]
  simp
theorem bs3 (L1 L2 L3 : List Value) (h1 : L1.length = 65) (h2 : L2.length = 65) (h3 : L3.length = 65) (w : World) :
    (bsA 63 3 #[(0, .agg L1.toArray), (1, .agg L2.toArray), (2, .agg L3.toArray)]).run Tryd.prog w = .ok (.slice (some ⟨w.heap.size, 0, none⟩) 3 3) (w.alloc (.cells (L1 ++ (L2 ++ L3)).toArray 25)) := by
  refine bs_run 3 [(0, .agg L1.toArray), (1, .agg L2.toArray), (2, .agg L3.toArray)] (L1 ++ (L2 ++ L3)) (.inr rfl) ?_ w
  intro Z hZ
  obtain ⟨X, C, rfl, hX, hC⟩ := zs_split Z 130 hZ
  obtain ⟨Y, E, rfl, hY, hE⟩ := zs_split C 65 hC
  rw [fill_step 65 (X ++ (Y ++ E)) [] X (Y ++ E) (by simp) 0 (by simp) hX L1 h1, fill_step 65 ([] ++ L1 ++ (Y ++ E)) L1 Y E (by simp) 1 (by simpa using h1) hY L2 h2, fill_step 65 (L1 ++ L2 ++ E) (L1 ++ L2) E [] (by simp) 2 (by simp [h1, h2]) hE L3 h3, Instr.fill]
  simp

end Go.Proofs.YtcijjmncilciiaaDoor
