/-
  sha.spread: the 64 words of a block.
-/
import Derived.Test.YtgajejomibnghaaDoorSaM
import Derived.Deep.RegionHeld3
namespace Go.Proofs.YtgajejomibnghaaDoor
open Go.RowKit Go.IntWalk

theorem i64_in (x : Int) (h : -9223372036854775808 ≤ x ∧ x ≤ 9223372036854775807) : IntKind.i64.wrap x = x := by rw [IntKind.wrap_i64]; omega

/-- Loads and stores of whole arrays and structs, kept whole in the walk. -/
def ldA (t : TypeId) (v : Value) : Sem Value := Instr.loadAt t v
def stA (t : TypeId) (v u : Value) : Sem Unit := Instr.storeAt t v u
theorem ld_words (v : Value) : Instr.loadAt 70 v = ldA 70 v := rfl
theorem ld_part (v : Value) : Instr.loadAt 71 v = ldA 71 v := rfl
theorem ld_sched (v : Value) : Instr.loadAt 92 v = ldA 92 v := rfl
theorem ld_hash (v : Value) : Instr.loadAt 73 v = ldA 73 v := rfl
theorem ld_dig (v : Value) : Instr.loadAt 26 v = ldA 26 v := rfl
theorem ld_arr (v : Value) : Instr.loadAt 25 v = ldA 25 v := rfl
theorem st_words (v u : Value) : Instr.storeAt 70 v u = stA 70 v u := rfl
theorem st_part (v u : Value) : Instr.storeAt 71 v u = stA 71 v u := rfl
theorem st_sched (v u : Value) : Instr.storeAt 92 v u = stA 92 v u := rfl
theorem st_hash (v u : Value) : Instr.storeAt 73 v u = stA 73 v u := rfl
theorem st_dig (v u : Value) : Instr.storeAt 26 v u = stA 26 v u := rfl
theorem st_arr (v u : Value) : Instr.storeAt 25 v u = stA 25 v u := rfl
attribute [local go_sem ↓] ld_words ld_part ld_sched ld_hash ld_dig ld_arr st_words st_part st_sched st_hash st_dig st_arr

theorem ldA_mid {t : TypeId} {d : TypeDesc} {T : TypeId} {w : World} {g o : Nat} {A X C : List Value} (hu : Tryd.prog.underlying t = some d) (hd : d.isRow = true) (hi : (Tryd.prog.info? t).map (·.size) = some X.length) (h : Blk T w g (A ++ X ++ C)) (ho : A.length = o) :
    (ldA t (.pointer (some ⟨g, o, none⟩))).run Tryd.prog w = .ok (.agg X.toArray) w := run_loadAt_mid w g o t X d (h.range o ho) hu hd hi

theorem stA_mid {t : TypeId} {T : TypeId} {w : World} {g o : Nat} {A X C vs : List Value} (hi : (Tryd.prog.info? t).map (·.size) = some vs.length) (h : Blk T w g (A ++ X ++ C)) (ho : A.length = o) (hl : X.length = vs.length) (h1 : ∀ v ∈ vs, v.oneCell' = true) :
    (stA t (.pointer (some ⟨g, o, none⟩)) (.agg vs.toArray)).run Tryd.prog w = .ok () (w.setCells g o vs) := by
  have := run_storeAt_mid (P := Tryd.prog) w g o t vs.toArray (h.there o _ (by simp; omega)) (by simpa using hi) (all_oneCell_toArray h1)
  simpa [stA] using this

theorem ldA_all {t : TypeId} {d : TypeDesc} {T : TypeId} {w : World} {g : Nat} {X : List Value} (hu : Tryd.prog.underlying t = some d) (hd : d.isRow = true) (hi : (Tryd.prog.info? t).map (·.size) = some X.length) (h : Blk T w g X) :
    (ldA t (.pointer (some ⟨g, 0, none⟩))).run Tryd.prog w = .ok (.agg X.toArray) w := ldA_mid (A := []) (C := []) hu hd hi (by simpa using h) rfl

theorem stA_all {t : TypeId} {T : TypeId} {w : World} {g : Nat} {X vs : List Value} (hi : (Tryd.prog.info? t).map (·.size) = some vs.length) (h : Blk T w g X) (hl : X.length = vs.length) (h1 : ∀ v ∈ vs, v.oneCell' = true) :
    (stA t (.pointer (some ⟨g, 0, none⟩)) (.agg vs.toArray)).run Tryd.prog w = .ok () (w.setCells g 0 vs) := stA_mid (A := []) (C := []) hi (by simpa using h) rfl hl h1

/-- What a cell holds, whatever it is. -/
def cellOf (w : World) (a : Addr) : Value := (w.cell? a).getD undef
theorem cell_is {w : World} {a : Addr} {u : Value} (h : w.cell? a = some u) : w.cell? a = some (cellOf w a) := by unfold cellOf; rw [h]; rfl
theorem set_other {w : World} {g t a : Nat} {u v : Value} (h : w.cell? ⟨g, a, none⟩ = some u) (hn : ¬ t = a) : (w.setCell ⟨g, t, none⟩ v).cell? ⟨g, a, none⟩ = some u := by
  rw [World.cell?_setCell_other _ _ _ _ (fun e => hn (Addr.mk.inj e).2.1)]
  exact h
theorem frozen_set {w : World} {a b : Addr} {v : Value} (h : w.frozen? b = false) : (w.setCell a v).frozen? b = false := by rw [World.frozen?_setCell]; exact h
theorem cell_again {w : World} {a : Addr} {u v : Value} (h : w.cell? a = some u) : (w.setCell a v).cell? a = some (cellOf (w.setCell a v) a) := cell_is (World.cell?_setCell_same _ _ _ h)

theorem Tryd.lenA54 : Tryd.prog.arrayLen 71 = 64 := by kernel_rfl
theorem Tryd.elemA54 : Tryd.prog.elem 71 = 5 := by kernel_rfl
theorem Tryd.arrA54 : Tryd.prog.underlying 71 = some (.array (Tryd.prog.arrayLen 71) (Tryd.prog.elem 71)) := by rw [Tryd.lenA54, Tryd.elemA54]; exact Tryd.underlying71
theorem Tryd.sizeA54 (w : World) : (sizeOf (Tryd.prog.elem 71)).run Tryd.prog w = .ok 1 w := by rw [Tryd.elemA54]; kernel_rfl

theorem slice_arr64 (W : World) (b o k : Nat) (i : Int) (hi : i = (k : Int)) (hk : k < 64) : (Instr.sliceAt 71 (.pointer (some ⟨b, o, none⟩)) (some (.int .i64 i)) none none).run Tryd.prog W = .ok (.slice (some ⟨b, o + k, none⟩) (64 - k) (64 - k)) W := by
  subst hi
  rw [run_sliceAt_array_l W _ _ Tryd.arrA54 .i64 (k : Int) (by omega) (by rw [Tryd.lenA54]; omega), Tryd.sizeA54, Tryd.lenA54]
  simp [slicedAt, Result.andThen, addNone]
  omega

theorem take_set_snoc (Z : List Int) (k : Nat) (u : Int) (h : k < Z.length) : (Z.set k u).take (k + 1) = Z.take k ++ [u] := by
  rw [List.take_set, List.take_succ_eq_append_getElem h, List.set_append_right _ _ (by simp; omega)]
  simp [Nat.min_eq_left (Nat.le_of_lt h)]

theorem own_take (blk : List Int) (k : Nat) (hk : k < 16) : (own16 blk).take (k + 1) = (own16 blk).take k ++ [wordOf blk k] := by
  rw [List.take_succ_eq_append_getElem (by rw [own_len]; exact hk)]
  simp [own16]

theorem getD_take {Z Y : List Int} {k : Nat} (h : Z.take k = Y) (j : Nat) (hj : j < k) : Z.getD j 0 = Y.getD j 0 := by
  subst h
  simp [List.getD, hj]

theorem below_sets {B g : Nat} {w W : World} (h : Below B w W) (hg : B ≤ g) (hB : B ≤ W.heap.size) (o : Nat) (vs : List Value) : Below B w (W.setCells g o vs) :=
  h.grown (gSets g vs o W).1 hB (fun k hk => by simp at hk; omega)

/-- A result that lies in a variable. -/
theorem results_one {fn : Func} {p : Tmp} {ty : TypeId} (h : fn.results = #[.cell p ty]) (tmps : Array Value) (w : World) {g : Nat} {X : List Value} {d : TypeDesc} {T : TypeId} (hp : tmps.getD p undef = .pointer (some ⟨g, 0, none⟩))
    (hu : Tryd.prog.underlying ty = some d) (hd : d.isRow = true) (hi : (Tryd.prog.info? ty).map (·.size) = some X.length) (hB : Blk T w g X) :
    (results fn tmps).run Tryd.prog w = .ok (.agg X.toArray) w := by
  have := run_loadVar_mid (P := Tryd.prog) w g 0 ty X d (Blk.range (A := []) (C := []) (by simpa using hB) 0 rfl) hu hd hi
  have hp' : tmps[p]?.getD undef = .pointer (some ⟨g, 0, none⟩) := by simpa using hp
  simp only [results, h]
  simp [hp', asAddr, this]

theorem row_cong {T : TypeId} {W : World} {a : Addr} {g : Nat} {Z : List Int} {V U : Int} (e : V = U) (h : RowG .u32 4294967296 T (W.setCell a (.int .u32 U)) g Z) : RowG .u32 4294967296 T (W.setCell a (.int .u32 V)) g Z := by subst e; exact h

set_option maxRecDepth 100000 in
set_option maxHeartbeats 4000000 in
theorem spread_any (blk : List Int) (w : World) (hl : blk.length = 64) (hd : Dg 256 blk) :
    Calls Tryd.prog 50 #[.agg (blk.map (Value.int .u8)).toArray] w fun e w' => e = .returned (.agg ((sched blk).map (Value.int .u32)).toArray) ∧ Below w.heap.size w w' := by
  have HL := hide hl
  have HD := hide hd
  clear hl hd
  go_enter Tryd.func50, Tryd.ntmps50
  go_wp2
  go_loopw [8] (fun i wr => ∃ (k : Nat) (Z : List Int), k ≤ 16 ∧ i = .int .i64 k ∧ Hid (Z.length = 64) ∧ Hid (Z.take k = (own16 blk).take k) ∧ Hid (RowG .u32 4294967296 92 wr (w.heap.size + 1 + 1) Z) ∧ Hid (Blk 71 wr w.heap.size (blk.map (Value.int .u8))) ∧ Hid (Blk 92 wr (w.heap.size + 1) (List.replicate 64 (.int .u32 0))) ∧ Hid (Below w.heap.size w wr)) (fun i _ => 16 - (intOf i).toNat)
  case atStart =>
    refine ⟨0, List.replicate 64 0, by omega, rfl, rfl, rfl, ⟨?_, ?_⟩, ?_, ?_, ?_⟩
    · exact Blk.new _ (List.replicate 64 (.int .u32 0)) _ _ rfl (by simp)
    · intro x hx
      simp at hx
      omega
    · exact ((Blk.new w _ _ _ rfl rfl).alloc _).alloc _
    · exact (Blk.new _ (List.replicate 64 (.int .u32 0)) _ _ rfl (by simp)).alloc _
    · exact (((Below.refl _ _).alloc (Nat.le_refl _) _).alloc (by simp) _).alloc (by simp; omega) _
  case round =>
    obtain ⟨k, Z, hk, rfl, HZ, HT, HR, HB, H0, HW⟩ := hrel
    by_cases hk16 : k < 16
    · have hsl : ∀ W : World, (Instr.sliceAt 71 (.pointer (some ⟨w.heap.size, 0, none⟩)) (some (.int .i64 ((k : Int) * 4))) none none).run Tryd.prog W = .ok (.slice (some ⟨w.heap.size, 4 * k, none⟩) (64 - 4 * k) (64 - 4 * k)) W := by
        intro W
        have := slice_arr64 W w.heap.size 0 (4 * k) ((k : Int) * 4) (by omega) (by omega)
        simpa using this
      have hcell : ∀ j, j < 64 → wr.cell? ⟨w.heap.size, j, none⟩ = some (.int .u8 (blk.getD j 0)) := by
        intro j hj
        rw [HB.out.cell]
        simp [List.getD, HL.out, hj]
      have HC := hide hcell
      clear hcell
      have hword : Calls Tryd.prog 52 #[.slice (some ⟨w.heap.size, 4 * k, none⟩) (64 - 4 * k) (64 - 4 * k)] wr fun e w' => e = .returned (.int .u32 (wordOf blk k)) ∧ Drew wr w' :=
        word_any _ _ _ _ _ _ _ _ _ (by omega) (HC.out _ (by omega)) (HC.out _ (by omega)) (HC.out _ (by omega)) (HC.out _ (by omega)) (HD.out.at (by decide) _) (HD.out.at (by decide) _) (HD.out.at (by decide) _) (HD.out.at (by decide) _)
      have HWd := hide hword
      clear hword
      go_wp2_with ((go_at_call 52; refine (HWd.out).mono ?_; rintro e w1 ⟨rfl, hdr⟩; have HR1 := hide (HR.out.heap hdr.heap); have hc := HR1.out.cell k (by rw [HZ.out]; omega); have hf := HR1.out.frozen k; have HDR := hide hdr; clear hdr))
      go_roundw
      case rel =>
        refine ⟨k + 1, Z.set k (wordOf blk k), by omega, by go_num, ?_, ?_, ?_, ?_, ?_, ?_⟩
        · unfold Hid; rw [List.length_set]; exact HZ.out
        · unfold Hid; rw [take_set_snoc _ _ _ (by rw [HZ.out]; omega), own_take _ _ hk16, HT.out]
        · exact HR1.out.set k _ (wordOf_bd HD.out k)
        · exact (HB.out.heap HDR.out.heap).kept (gSet _ _ _ _) (by simp; omega)
        · exact (H0.out.heap HDR.out.heap).kept (gSet _ _ _ _) (by simp)
        · exact (HDR.out.below HW.out).setCell (by show w.heap.size ≤ w.heap.size + 1 + 1; omega) _
      case measure => simp [intOf]; omega
    · obtain rfl : k = 16 := by omega
      go_wp2
      go_loopw [5] (fun i wq => ∃ (t : Nat) (Z : List Int), 16 ≤ t ∧ t ≤ 64 ∧ i = .int .i64 t ∧ Hid (Z.length = 64) ∧ Hid (Z.take t = ext (own16 blk) (t - 16)) ∧ Hid (RowG .u32 4294967296 92 wq (w.heap.size + 1 + 1) Z) ∧ Hid (Blk 92 wq (w.heap.size + 1) (List.replicate 64 (.int .u32 0))) ∧ Hid (Below w.heap.size w wq)) (fun i _ => 64 - (intOf i).toNat)
      case atStart => exact ⟨16, Z, by omega, by omega, rfl, HZ, by unfold Hid; rw [HT.out, List.take_of_length_le (by rw [own_len]; omega)]; rfl, HR, H0, HW⟩
      case round =>
        clear HZ HT HR HB H0 HW
        obtain ⟨t, Z, ht1, ht2, rfl, HZ, HT, HR, H0, HW⟩ := hrel
        by_cases ht : t < 64
        · have hc : ∀ j, j < 64 → wr.cell? ⟨w.heap.size + 1 + 1, j, none⟩ = some (.int .u32 (Z.getD j 0)) := fun j hj => HR.out.cell j (by rw [HZ.out]; exact hj)
          have c15 := hc (t - 15) (by omega)
          have c2 := hc (t - 2) (by omega)
          have c16 := hc (t - 16) (by omega)
          have c7 := hc (t - 7) (by omega)
          have c0 := cell_is (hc t ht)
          have f0 := HR.out.frozen t
          have b15 := HR.out.2.at (by decide) (t - 15)
          have b2 := HR.out.2.at (by decide) (t - 2)
          have b16 := HR.out.2.at (by decide) (t - 16)
          have b7 := HR.out.2.at (by decide) (t - 7)
          have HE : Hid ((Z.getD (t - 16) 0 + sg0 (Z.getD (t - 15) 0) + Z.getD (t - 7) 0 + sg1 (Z.getD (t - 2) 0)) % 4294967296 = nextW (ext (own16 blk) (t - 16))) := by
            have e := ext_len (own16 blk) (t - 16)
            rw [own_len, show 16 + (t - 16) = t by omega] at e
            unfold Hid nextW
            rw [e, getD_take HT.out (t - 16) (by omega), getD_take HT.out (t - 15) (by omega), getD_take HT.out (t - 7) (by omega), getD_take HT.out (t - 2) (by omega)]
          clear hc
          generalize Z.getD (t - 16) 0 = x16 at *
          generalize Z.getD (t - 15) 0 = x15 at *
          generalize Z.getD (t - 7) 0 = x7 at *
          generalize Z.getD (t - 2) 0 = x2 at *
          obtain ⟨a16, h16⟩ : ∃ a, t - 16 = a := ⟨_, rfl⟩
          obtain ⟨a7, h7⟩ : ∃ a, t - 7 = a := ⟨_, rfl⟩
          have e16 : IntKind.i64.wrap ((t : Int) - 16) = (a16 : Int) := by rw [i64_in _ (by omega)]; omega
          have e7 : IntKind.i64.wrap ((t : Int) - 7) = (a7 : Int) := by rw [i64_in _ (by omega)]; omega
          have p16 : (0 : Int) ≤ (a16 : Int) := by omega
          have p7 : (0 : Int) ≤ (a7 : Int) := by omega
          have q16 : (a16 : Int) < 64 := by omega
          have q7 : (a7 : Int) < 64 := by omega
          have qt : (t : Int) < 64 := by omega
          have pt : (0 : Int) ≤ (t : Int) := by omega
          have n16 : ¬ t = a16 := by omega
          have n7 : ¬ t = a7 := by omega
          rw [h16] at c16
          rw [h7] at c7
          have HT16 := hide h16
          have HT7 := hide h7
          clear h16 h7
          go_wp2
          go_quiet (fail)
          go_wp2
          go_region_held3 (fun W => W.cell? ⟨w.heap.size + 1 + 1, a16, none⟩ = some (.int .u32 x16) ∧ W.cell? ⟨w.heap.size + 1 + 1, a7, none⟩ = some (.int .u32 x7) ∧ W.cell? ⟨w.heap.size + 1 + 1, t, none⟩ = some (cellOf W ⟨w.heap.size + 1 + 1, t, none⟩) ∧ W.frozen? ⟨w.heap.size + 1 + 1, t, none⟩ = false) ((go_split_ands; refine ⟨?_, ?_, ?_, ?_⟩ <;> first | assumption | exact c0 | (refine set_other ?_ ?_ <;> assumption) | (apply cell_again; assumption) | (refine frozen_set ?_; assumption) | (simp [*]; done)))
            ((go_at_call 51; (first | refine (right_any _ _ 7 (by rfl) (by decide) (by decide) _).mono ?_ | refine (right_any _ _ 18 (by rfl) (by decide) (by decide) _).mono ?_ | refine (right_any _ _ 17 (by rfl) (by decide) (by decide) _).mono ?_ | refine (right_any _ _ 19 (by rfl) (by decide) (by decide) _).mono ?_); rintro e w2 ⟨rfl, hw⟩; have hw2 := hw.symm; subst hw2))
          go_wp2
          refine ⟨?_, ?measure⟩
          (repeat apply Exists.intro)
          refine ⟨?rel, rfl⟩
          case rel =>
            refine ⟨t + 1, Z.set t (nextW (ext (own16 blk) (t - 16))), by omega, by omega, by go_num, ?_, ?_, ?_, ?_, ?_⟩
            · unfold Hid; rw [List.length_set]; exact HZ.out
            · unfold Hid; rw [take_set_snoc _ _ _ (by rw [HZ.out]; omega), HT.out, show t + 1 - 16 = (t - 16) + 1 by omega, ext]
            · refine row_cong ?_ ((HR.out.heap (w' := wr.drewN (nq + 1)) rfl).set t _ (nextW_bd _))
              rw [← HE.out]
              simp only [sg0, sg1]
              omega
            · exact (H0.out.heap (w' := wr.drewN (nq + 1)) rfl).kept (gSet _ _ _ _) (by simp)
            · exact (((Drew.refl wr).more _).below HW.out).setCell (by show w.heap.size ≤ w.heap.size + 1 + 1; omega) _
          case measure => simp [intOf]; omega
        · obtain rfl : t = 64 := by omega
          have hz := HZ.out
          have hT := HT.out
          rw [List.take_of_length_le (by rw [hz]; omega)] at hT
          have hT' : Z = sched blk := hT
          have HB1 := HR.out.blk
          rw [hT'] at HB1
          have hi : (Tryd.prog.info? 92).map (·.size) = some ((sched blk).map (Value.int .u32)).length := by rw [List.length_map, sched_len]; kernel_rfl
          have hld : (ldA 92 (.pointer (some ⟨w.heap.size + 1 + 1, 0, none⟩))).run Tryd.prog wr = .ok (.agg ((sched blk).map (Value.int .u32)).toArray) wr := ldA_all Tryd.underlying92 rfl hi HB1
          have hst : (stA 92 (.pointer (some ⟨w.heap.size + 1, 0, none⟩)) (.agg ((sched blk).map (Value.int .u32)).toArray)).run Tryd.prog wr = .ok () (wr.setCells (w.heap.size + 1) 0 ((sched blk).map (Value.int .u32))) := stA_all hi H0.out (by simp [sched_len]) (ints_one _ _)
          go_wp2
          have hB2 := Blk.sets ((sched blk).map (Value.int .u32)) 0 _ wr H0.out (by simp [sched_len])
          refine bodyPost_ret (v := .agg ((sched blk).map (Value.int .u32)).toArray) ?_ rfl ⟨rfl, ?_⟩
          · refine results_one (T := 92) (X := (sched blk).map (Value.int .u32)) (p := 2) (ty := 92) (g := w.heap.size + 1) (by kernel_rfl) _ _ rfl Tryd.underlying92 rfl hi ?_
            have e := hB2
            simp [sched_len] at e
            exact e
          · exact below_sets HW.out (by omega) HW.out.size _ _

end Go.Proofs.YtgajejomibnghaaDoor
