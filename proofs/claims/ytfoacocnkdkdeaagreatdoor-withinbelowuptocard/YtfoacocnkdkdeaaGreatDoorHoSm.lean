/-
  The document's host: a text with small letters.
-/
import Derived.Test.YtfoacocnkdkdeaaGreatDoorHoR3
import Derived.Test.YtfoacocnkdkdeaaGreatDoorHoMs
import Derived.Test.YtfoacocnkdkdeaaGreatDoorTxF0
import Derived.Test.YtfoacocnkdkdeaaGreatDoorStep
namespace Go.Proofs.YtfoacocnkdkdeaaGreatDoor
open Go.RowKit Go.IntWalk

def appOf (ats : Array TypeId) (ty : TypeId) (args : Array Value) : Sem Value := Builtin.append_ ats ty args
theorem appOf_of (ats : Array TypeId) (ty : TypeId) (args : Array Value) : Builtin.append_ ats ty args = appOf ats ty args := rfl
attribute [local go_sem ↓] appOf_of

theorem app_byte {W : World} {base : Nat} {v : Value} {acc : List UInt8} (h : OwnB W base v (nums acc)) (N : UInt8) (hl : acc.length + 1 ≤ 140737488355328) (hbase : base ≤ W.heap.size) :
    ∃ g c w2, (appOf #[60, 60] 60 #[v, .slice (some ⟨W.heap.size, 0, none⟩) 1 1]).run Tryz.prog (W.alloc (.cells #[.int .u8 N.toNat] 5)) = .ok (.slice (some ⟨g, 0, none⟩) (acc.length + 1) c) w2 ∧
      OwnB w2 base (.slice (some ⟨g, 0, none⟩) (acc.length + 1) c) (nums (acc ++ [N])) ∧ (W.alloc (.cells #[.int .u8 N.toNat] 5)).grownBy w2 v.ownBlock := by
  have hN := N.toNat_lt
  have hs : Src (W.alloc (.cells #[.int .u8 N.toNat] 5)) (some ⟨W.heap.size, 0, none⟩) 1 1 [(N.toNat : Int)] := Src.litAt [(N.toNat : Int)] _ 1 _ rfl rfl (by intro x hx; simp at hx; subst hx; omega) (by decide) rfl
  obtain ⟨g, c', w', h1, h2, _, _, _, _, h3⟩ := run_appN (W.alloc (.cells #[.int .u8 N.toNat] 5)) 60 base v (nums acc) (h.alloc _) _ 1 1 [(N.toNat : Int)] hs (acc.length + 1) (by simp [nums]) (.inr (by simp)) hl (by simp; omega)
  exact ⟨g, c', w', h1, by rw [nums_append]; exact h2, h3⟩





set_option maxRecDepth 100000 in
set_option maxHeartbeats 4000000 in
theorem refSmall_any (s : ByteArray) (hs : s.size ≤ 1048576) (w : World) :
    Calls Tryz.prog 30 #[.string s] w fun e w' => e = .returned (.string (tx (smallL s.data.toList))) ∧ Below w.heap.size w w' := by
  have hSL := size_len s
  go_enter Tryz.func30, Tryz.ntmps30
  go_wp2
  go_loopw [3, 4] (fun b i wr => ∃ (aP : Option Addr) (cP k n : Nat), b = .slice aP n cP ∧ i = .int .i64 k ∧ k ≤ s.size ∧ n = k ∧ Hid (OwnB wr w.heap.size (.slice aP k cP) (nums (smallL (s.data.toList.take k))) ∧ Below w.heap.size w wr)) (fun _ i _ => s.size - (intOf i).toNat)
  case atStart => exact ⟨none, 0, 0, 0, rfl, rfl, Nat.zero_le _, rfl, OwnB.nil _ _, Below.refl _ _⟩
  case round =>
    obtain ⟨aP, cP, k, n, rfl, rfl, hk, hn, HO⟩ := hrel
    subst hn
    have hlen : (smallL (s.data.toList.take n)).length = n := by unfold smallL; rw [List.length_map, List.length_take, hSL]; omega
    by_cases hlt : n < s.size
    · have ltI : (n : Int) < (s.size : Int) := by omega
      have hl : n < s.data.toList.length := by rw [hSL]; exact hlt
      have hsm := small_num (s.data.toList[n]'hl)
      have ho : OwnB wr w.heap.size (.slice aP n cP) (nums (smallL (s.data.toList.take n))) := HO.out.1
      obtain ⟨g4, c4, w4, hrun, ho4, hg4⟩ := app_byte ho (smallB (s.data.toList[n]'hl)) (by rw [hlen]; omega) HO.out.2.size
      rw [hlen] at hrun ho4
      have e1 : smallL (s.data.toList.take n) ++ [smallB (s.data.toList[n]'hl)] = smallL (s.data.toList.take (n + 1)) := by
        unfold smallL
        rw [List.take_succ_eq_append_getElem hl, List.map_append]
        rfl
      rw [e1] at ho4
      have H4 : Hid (OwnB w4 w.heap.size (.slice (some ⟨g4, 0, none⟩) (n + 1) c4) (nums (smallL (s.data.toList.take (n + 1)))) ∧ Below w.heap.size w w4) :=
        ⟨ho4, (HO.out.2.alloc HO.out.2.size _).grown hg4 (by have := HO.out.2.size; simp; omega) (fun j hj => (HO.out.1.lt j hj).1)⟩
      rw [hsm, get_list s n hlt] at hrun
      have hX := (s[n]'hlt).toNat_lt
      clear hsm ho ho4 e1 hlen hg4
      by_cases hgr : (65 : Int) ≤ ((s[n]'hlt).toNat : Int) ∧ ((s[n]'hlt).toNat : Int) ≤ 90
      · rw [if_pos hgr] at hrun
        have q1 := hgr.1
        have q2 := hgr.2
        clear hgr
        go_wp2
        go_roundw
        case rel => exact ⟨_, _, n + 1, n + 1, by simp, by simp, by omega, rfl, H4⟩
        case measure => simp [intOf]; omega
      · rw [if_neg hgr] at hrun
        by_cases q1 : (65 : Int) ≤ ((s[n]'hlt).toNat : Int)
        · have q2 : ¬ ((s[n]'hlt).toNat : Int) ≤ 90 := fun h => hgr ⟨q1, h⟩
          clear hgr
          go_wp2
          go_roundw
          case rel => exact ⟨_, _, n + 1, n + 1, by simp, by simp, by omega, rfl, H4⟩
          case measure => simp [intOf]; omega
        · clear hgr
          go_wp2
          go_roundw
          case rel => exact ⟨_, _, n + 1, n + 1, by simp, by simp, by omega, rfl, H4⟩
          case measure => simp [intOf]; omega
    · obtain rfl : n = s.size := by omega
      have ltI : ¬ (s.size : Int) < (s.size : Int) := by omega
      have hall : s.data.toList.take s.size = s.data.toList := List.take_of_length_le (by omega)
      have ho := HO.out.1
      rw [hall] at ho
      have ht := (ho.toSrc (nums_bytes _)).text
      rw [nums_text] at ht
      clear ho
      go_wp2
      go_ret
      exact ⟨rfl, HO.out.2⟩

end Go.Proofs.YtfoacocnkdkdeaaGreatDoor
