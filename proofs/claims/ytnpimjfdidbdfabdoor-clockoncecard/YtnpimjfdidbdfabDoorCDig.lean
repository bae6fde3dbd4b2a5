/-
  clock.digits: numbers by their last digits, with a sign between.
-/
import Derived.Test.YtnpimjfdidbdfabDoorDig
import Derived.Test.YtnpimjfdidbdfabDoorCStr
import Derived.Test.YtnpimjfdidbdfabDoorShelf4
namespace Go.Proofs.YtnpimjfdidbdfabDoor
open Go.RowKit

theorem make2 (w : World) : (Instr.makeSlice 22 (.int .i64 2) (.int .i64 2)).run Tryd.prog w = .ok (.slice (some ⟨w.heap.size, 0, none⟩) 2 2) (w.alloc (.cells #[.int .u8 0, .int .u8 0] 5)) := by
  obtain ⟨i0, hi, hz0, hz1, hz2⟩ := info_parts Tryd.infoB
  have h := run_make (P := Tryd.prog) w 22 5 i0 (.int .u8 0) Tryd.underlying22 hi hz0 .i64 .i64 2 2 (by decide) (by decide) (by rw [hz2]; decide) (by decide)
  rw [h, hz1, show madeCells (Value.int IntKind.u8 0).cells (Int.toNat 2 * 1) = #[.int .u8 0, .int .u8 0] by kernel_rfl]
  rfl

theorem make4 (w : World) : (Instr.makeSlice 22 (.int .i64 4) (.int .i64 4)).run Tryd.prog w = .ok (.slice (some ⟨w.heap.size, 0, none⟩) 4 4) (w.alloc (.cells #[.int .u8 0, .int .u8 0, .int .u8 0, .int .u8 0] 5)) := by
  obtain ⟨i0, hi, hz0, hz1, hz2⟩ := info_parts Tryd.infoB
  have h := run_make (P := Tryd.prog) w 22 5 i0 (.int .u8 0) Tryd.underlying22 hi hz0 .i64 .i64 4 4 (by decide) (by decide) (by rw [hz2]; decide) (by decide)
  rw [h, hz1, show madeCells (Value.int IntKind.u8 0).cells (Int.toNat 4 * 1) = #[.int .u8 0, .int .u8 0, .int .u8 0, .int .u8 0] by kernel_rfl]
  rfl

def dgS (k x : Nat) : ByteArray := strOfNums (dg k x)

set_option maxRecDepth 100000 in
set_option maxHeartbeats 2000000 in
theorem digits_2 (sep : List Int) (hs : sep.length ≤ 1) (b : Nat) (ns : List Nat) (n : Nat) (hn : ns.length = n) (h1 : 1 ≤ n) (h5 : n ≤ 5) (hx : ∀ x ∈ ns, x ≤ 100000) (w : World)
    (hc : ∀ k, k < n → w.cell? ⟨b, k, none⟩ = some (.int .i64 ((ns.getD k 0 : Nat) : Int))) (hb : b < w.heap.size) :
    Calls Tryd.prog 18 #[.int .i64 2, .string (strOfNums sep), .slice (some ⟨b, 0, none⟩) n n] w fun e w' => e = .returned (.string (strOfNums (joinI 2 sep ns))) ∧ Below w.heap.size w w' := by
  have HL := hide hn
  have HX := hide hx
  have HC := hide hc
  have HS := hide hs
  have hn5 : (n : Int) ≤ 5 := by omega
  clear hn hx hc hs
  generalize hsep : strOfNums sep = SEP at *
  have ES := hide hsep
  clear hsep
  go_enter Tryd.func18, Tryd.ntmps18
  go_wp2
  go_loopw [7, 14] (fun v i wr => ∃ (k : Nat) (aO : Option Addr) (cO : Nat), k ≤ n ∧ i = .int .i64 k ∧ v = .slice aO k cO ∧ Hid (OwnS wr w.heap.size (.slice aO k cO) ((ns.take k).map (dgS 2))) ∧ Below w.heap.size w wr) (fun _ i _ => n - (intOf i).toNat)
  case atStart => exact ⟨0, none, 0, Nat.zero_le _, rfl, rfl, OwnS.nil _ _, Below.refl _ _⟩
  case round =>
    obtain ⟨k, aO, cO, hk, rfl, rfl, hO, hB⟩ := hrel
    have hBs := hB.size
    by_cases hlt : k < n
    · have e1 := (hB.cell (p := ⟨b, k, none⟩) hb).trans (HC.out k hlt)
      have hx : ns.getD k 0 ≤ 100000 := by
        rw [List.getD, List.getElem?_eq_getElem (by rw [HL.out]; exact hlt)]
        exact HX.out _ (List.getElem_mem _)
      have hnx : Hid ((ns.take (k + 1)).map (dgS 2) = (ns.take k).map (dgS 2) ++ [dgS 2 (ns.getD k 0)]) := by
        unfold Hid
        rw [List.take_add_one, List.map_append]
        simp [List.getD, show k < ns.length by rw [HL.out]; exact hlt]
      have hll : Hid (((ns.take k).map (dgS 2)).length + 1 = k + 1) := by
        unfold Hid
        rw [List.length_map, List.length_take, HL.out]
        omega
      generalize ns.getD k 0 = x at e1 hx hnx
      generalize (ns.take k).map (dgS 2) = S at hO hnx hll
      have kI : (k : Int) < (n : Int) := by omega
      have hlo := hide hO.out.lt
      have hmk := make2 wr
      go_wp2
      go_loopw [9, 21] (fun a i wi => (i = .int .i64 0 ∧ a = .int .i64 x ∧ wi = wr.alloc (.cells #[.int .u8 0, .int .u8 0] 5)) ∨ (i = .int .i64 1 ∧ a = .int .i64 ((x : Int) / 10) ∧ wi = wr.alloc (.cells #[.int .u8 0, .int .u8 (48 + (x : Int) % 10)] 5)) ∨ (i = .int .i64 2 ∧ a = .int .i64 ((x : Int) / 10 / 10) ∧ wi = wr.alloc (.cells #[.int .u8 (48 + (x : Int) / 10 % 10), .int .u8 (48 + (x : Int) % 10)] 5))) (fun _ i _ => 2 - (intOf i).toNat)
      case atStart => exact .inl ⟨rfl, rfl, rfl⟩
      case round =>
        rcases hrel with ⟨rfl, rfl, rfl⟩ | ⟨rfl, rfl, rfl⟩ | ⟨rfl, rfl, rfl⟩
        · go_wp2
          go_roundw
          case rel => exact .inr (.inl ⟨by go_num, by simp, by first | rfl | trivial⟩)
          case measure => simp [intOf]
        · go_wp2
          go_roundw
          case rel => exact .inr (.inr ⟨by go_num, by simp, by first | rfl | trivial⟩)
          case measure => simp [intOf]
        · have t1 := (Src.lit (w := wr) ([48 + (x : Int) / 10 % 10, 48 + (x : Int) % 10] : List Int) #[.int .u8 (48 + (x : Int) / 10 % 10), .int .u8 (48 + (x : Int) % 10)] 2 rfl rfl (by simp; omega) (by decide)).text
          have eZ : Hid (strOfNums ([48 + (x : Int) / 10 % 10, 48 + (x : Int) % 10] : List Int) = dgS 2 x) := by
            unfold Hid dgS
            simp [dg]
          go_wp2_with (at_builtin; refine wpList_appS _ rfl (.tmp 37) (.tmp 40) rfl w.heap.size (.slice aO k cO) S rfl ((hO.out.alloc _).alloc _) (wr.heap.size + 1) (strOfNums ([48 + (x : Int) / 10 % 10, 48 + (x : Int) % 10] : List Int)) rfl (by simp) (k + 1) hll.out (by omega) (by simp; omega) ?_; intro g4 c4 w4 ho4 hb4 hl4 hc4 hm4 hg4)
          have hgb : Hid (∀ q, (Value.slice aO k cO).ownBlock = some q → w.heap.size ≤ q) := fun q hq => (hlo.out q hq).1
          have hB4 : Below w.heap.size w w4 := ((hB.alloc hBs _).alloc (by simp; omega) _).grown hg4 (by simp; omega) hgb.out
          go_roundw
          case rel => exact ⟨k + 1, _, _, by omega, by go_num, rfl, by rw [hnx.out, ← eZ.out]; exact ho4, hB4⟩
          case measure => simp [intOf]; omega
    · obtain rfl : k = n := by omega
      have hxs : Hid (ns.take k = ns) := by unfold Hid; rw [List.take_of_length_le (by rw [HL.out]; exact Nat.le_refl _)]
      rw [hxs.out] at hO
      have hln : Hid ((ns.map (dgS 2)).length = k) := by unfold Hid; rw [List.length_map]; exact HL.out
      rcases hO.out.split with ⟨h1', h2⟩ | ⟨g, c, h1', hg1, hg2, hg3, hg4⟩
      · simp at h2
        rw [h2] at HL
        have := HL.out
        simp at this
        omega
      simp only [Value.slice.injEq] at h1'
      obtain ⟨rfl, hk0, rfl⟩ := h1'
      clear hk0
      have hjn : Hid ((⟨(Lib.join ((ns.map (dgS 2)).map (·.data.toList)) SEP.data.toList).toArray⟩ : ByteArray) = strOfNums (joinI 2 sep ns)) := by
        unfold Hid; rw [← ES.out]; exact join_dg 2 sep ns
      have hlen : (Lib.join ((ns.map (dgS 2)).map (·.data.toList)) SEP.data.toList).length ≤ 140737488355328 := by
        have h3 := congrArg ByteArray.size hjn.out
        rw [strOfNums_size] at h3
        have h4 := joinI_len 2 sep ns HS.out
        rw [HL.out] at h4
        have h5' : (⟨(Lib.join ((ns.map (dgS 2)).map (·.data.toList)) SEP.data.toList).toArray⟩ : ByteArray).size = (Lib.join ((ns.map (dgS 2)).map (·.data.toList)) SEP.data.toList).length := by simp [ByteArray.size]
        omega
      have hj := hide (Tryd.strings_Join g 0 cO (ns.map (dgS 2)) SEP wr hO.out.cells hg2 (by rw [hln.out]; omega) hg3 hlen)
      rw [hjn.out, hln.out] at hj
      clear hg3 hlen
      go_wp2_with (go_at_call 28; refine hj.out.mono ?_; rintro e w5 ⟨rfl, B5⟩)
      go_ret
      exact ⟨rfl, hB.trans (B5.mono hBs)⟩


set_option maxRecDepth 100000 in
set_option maxHeartbeats 2000000 in
theorem digits_4 (sep : List Int) (hs : sep.length ≤ 1) (b : Nat) (ns : List Nat) (n : Nat) (hn : ns.length = n) (h1 : 1 ≤ n) (h5 : n ≤ 5) (hx : ∀ x ∈ ns, x ≤ 100000) (w : World)
    (hc : ∀ k, k < n → w.cell? ⟨b, k, none⟩ = some (.int .i64 ((ns.getD k 0 : Nat) : Int))) (hb : b < w.heap.size) :
    Calls Tryd.prog 18 #[.int .i64 4, .string (strOfNums sep), .slice (some ⟨b, 0, none⟩) n n] w fun e w' => e = .returned (.string (strOfNums (joinI 4 sep ns))) ∧ Below w.heap.size w w' := by
  have HL := hide hn
  have HX := hide hx
  have HC := hide hc
  have HS := hide hs
  have hn5 : (n : Int) ≤ 5 := by omega
  clear hn hx hc hs
  generalize hsep : strOfNums sep = SEP at *
  have ES := hide hsep
  clear hsep
  go_enter Tryd.func18, Tryd.ntmps18
  go_wp2
  go_loopw [7, 14] (fun v i wr => ∃ (k : Nat) (aO : Option Addr) (cO : Nat), k ≤ n ∧ i = .int .i64 k ∧ v = .slice aO k cO ∧ Hid (OwnS wr w.heap.size (.slice aO k cO) ((ns.take k).map (dgS 4))) ∧ Below w.heap.size w wr) (fun _ i _ => n - (intOf i).toNat)
  case atStart => exact ⟨0, none, 0, Nat.zero_le _, rfl, rfl, OwnS.nil _ _, Below.refl _ _⟩
  case round =>
    obtain ⟨k, aO, cO, hk, rfl, rfl, hO, hB⟩ := hrel
    have hBs := hB.size
    by_cases hlt : k < n
    · have e1 := (hB.cell (p := ⟨b, k, none⟩) hb).trans (HC.out k hlt)
      have hx : ns.getD k 0 ≤ 100000 := by
        rw [List.getD, List.getElem?_eq_getElem (by rw [HL.out]; exact hlt)]
        exact HX.out _ (List.getElem_mem _)
      have hnx : Hid ((ns.take (k + 1)).map (dgS 4) = (ns.take k).map (dgS 4) ++ [dgS 4 (ns.getD k 0)]) := by
        unfold Hid
        rw [List.take_add_one, List.map_append]
        simp [List.getD, show k < ns.length by rw [HL.out]; exact hlt]
      have hll : Hid (((ns.take k).map (dgS 4)).length + 1 = k + 1) := by
        unfold Hid
        rw [List.length_map, List.length_take, HL.out]
        omega
      generalize ns.getD k 0 = x at e1 hx hnx
      generalize (ns.take k).map (dgS 4) = S at hO hnx hll
      have kI : (k : Int) < (n : Int) := by omega
      have hlo := hide hO.out.lt
      have hmk := make4 wr
      go_wp2
      go_loopw [9, 21] (fun a i wi => (i = .int .i64 0 ∧ a = .int .i64 x ∧ wi = wr.alloc (.cells #[.int .u8 0, .int .u8 0, .int .u8 0, .int .u8 0] 5)) ∨ (i = .int .i64 1 ∧ a = .int .i64 ((x : Int) / 10) ∧ wi = wr.alloc (.cells #[.int .u8 0, .int .u8 0, .int .u8 0, .int .u8 (48 + (x : Int) % 10)] 5)) ∨ (i = .int .i64 2 ∧ a = .int .i64 ((x : Int) / 10 / 10) ∧ wi = wr.alloc (.cells #[.int .u8 0, .int .u8 0, .int .u8 (48 + (x : Int) / 10 % 10), .int .u8 (48 + (x : Int) % 10)] 5)) ∨ (i = .int .i64 3 ∧ a = .int .i64 ((x : Int) / 10 / 10 / 10) ∧ wi = wr.alloc (.cells #[.int .u8 0, .int .u8 (48 + (x : Int) / 10 / 10 % 10), .int .u8 (48 + (x : Int) / 10 % 10), .int .u8 (48 + (x : Int) % 10)] 5)) ∨ (i = .int .i64 4 ∧ a = .int .i64 ((x : Int) / 10 / 10 / 10 / 10) ∧ wi = wr.alloc (.cells #[.int .u8 (48 + (x : Int) / 10 / 10 / 10 % 10), .int .u8 (48 + (x : Int) / 10 / 10 % 10), .int .u8 (48 + (x : Int) / 10 % 10), .int .u8 (48 + (x : Int) % 10)] 5))) (fun _ i _ => 4 - (intOf i).toNat)
      case atStart => exact .inl ⟨rfl, rfl, rfl⟩
      case round =>
        rcases hrel with ⟨rfl, rfl, rfl⟩ | ⟨rfl, rfl, rfl⟩ | ⟨rfl, rfl, rfl⟩ | ⟨rfl, rfl, rfl⟩ | ⟨rfl, rfl, rfl⟩
        · go_wp2
          go_roundw
          case rel => exact .inr (.inl ⟨by go_num, by simp, by first | rfl | trivial⟩)
          case measure => simp [intOf]
        · go_wp2
          go_roundw
          case rel => exact .inr (.inr (.inl ⟨by go_num, by simp, by first | rfl | trivial⟩))
          case measure => simp [intOf]
        · go_wp2
          go_roundw
          case rel => exact .inr (.inr (.inr (.inl ⟨by go_num, by simp, by first | rfl | trivial⟩)))
          case measure => simp [intOf]
        · go_wp2
          go_roundw
          case rel => exact .inr (.inr (.inr (.inr (⟨by go_num, by simp, by first | rfl | trivial⟩))))
          case measure => simp [intOf]
        · have t1 := (Src.lit (w := wr) ([48 + (x : Int) / 10 / 10 / 10 % 10, 48 + (x : Int) / 10 / 10 % 10, 48 + (x : Int) / 10 % 10, 48 + (x : Int) % 10] : List Int) #[.int .u8 (48 + (x : Int) / 10 / 10 / 10 % 10), .int .u8 (48 + (x : Int) / 10 / 10 % 10), .int .u8 (48 + (x : Int) / 10 % 10), .int .u8 (48 + (x : Int) % 10)] 4 rfl rfl (by simp; omega) (by decide)).text
          have eZ : Hid (strOfNums ([48 + (x : Int) / 10 / 10 / 10 % 10, 48 + (x : Int) / 10 / 10 % 10, 48 + (x : Int) / 10 % 10, 48 + (x : Int) % 10] : List Int) = dgS 4 x) := by
            unfold Hid dgS
            (congr 1; simp only [dg, Nat.reducePow, List.cons.injEq, and_true]; omega)
          go_wp2_with (at_builtin; refine wpList_appS _ rfl (.tmp 37) (.tmp 40) rfl w.heap.size (.slice aO k cO) S rfl ((hO.out.alloc _).alloc _) (wr.heap.size + 1) (strOfNums ([48 + (x : Int) / 10 / 10 / 10 % 10, 48 + (x : Int) / 10 / 10 % 10, 48 + (x : Int) / 10 % 10, 48 + (x : Int) % 10] : List Int)) rfl (by simp) (k + 1) hll.out (by omega) (by simp; omega) ?_; intro g4 c4 w4 ho4 hb4 hl4 hc4 hm4 hg4)
          have hgb : Hid (∀ q, (Value.slice aO k cO).ownBlock = some q → w.heap.size ≤ q) := fun q hq => (hlo.out q hq).1
          have hB4 : Below w.heap.size w w4 := ((hB.alloc hBs _).alloc (by simp; omega) _).grown hg4 (by simp; omega) hgb.out
          go_roundw
          case rel => exact ⟨k + 1, _, _, by omega, by go_num, rfl, by rw [hnx.out, ← eZ.out]; exact ho4, hB4⟩
          case measure => simp [intOf]; omega
    · obtain rfl : k = n := by omega
      have hxs : Hid (ns.take k = ns) := by unfold Hid; rw [List.take_of_length_le (by rw [HL.out]; exact Nat.le_refl _)]
      rw [hxs.out] at hO
      have hln : Hid ((ns.map (dgS 4)).length = k) := by unfold Hid; rw [List.length_map]; exact HL.out
      rcases hO.out.split with ⟨h1', h2⟩ | ⟨g, c, h1', hg1, hg2, hg3, hg4⟩
      · simp at h2
        rw [h2] at HL
        have := HL.out
        simp at this
        omega
      simp only [Value.slice.injEq] at h1'
      obtain ⟨rfl, hk0, rfl⟩ := h1'
      clear hk0
      have hjn : Hid ((⟨(Lib.join ((ns.map (dgS 4)).map (·.data.toList)) SEP.data.toList).toArray⟩ : ByteArray) = strOfNums (joinI 4 sep ns)) := by
        unfold Hid; rw [← ES.out]; exact join_dg 4 sep ns
      have hlen : (Lib.join ((ns.map (dgS 4)).map (·.data.toList)) SEP.data.toList).length ≤ 140737488355328 := by
        have h3 := congrArg ByteArray.size hjn.out
        rw [strOfNums_size] at h3
        have h4 := joinI_len 4 sep ns HS.out
        rw [HL.out] at h4
        have h5' : (⟨(Lib.join ((ns.map (dgS 4)).map (·.data.toList)) SEP.data.toList).toArray⟩ : ByteArray).size = (Lib.join ((ns.map (dgS 4)).map (·.data.toList)) SEP.data.toList).length := by simp [ByteArray.size]
        omega
      have hj := hide (Tryd.strings_Join g 0 cO (ns.map (dgS 4)) SEP wr hO.out.cells hg2 (by rw [hln.out]; omega) hg3 hlen)
      rw [hjn.out, hln.out] at hj
      clear hg3 hlen
      go_wp2_with (go_at_call 28; refine hj.out.mono ?_; rintro e w5 ⟨rfl, B5⟩)
      go_ret
      exact ⟨rfl, hB.trans (B5.mono hBs)⟩


end Go.Proofs.YtnpimjfdidbdfabDoor
