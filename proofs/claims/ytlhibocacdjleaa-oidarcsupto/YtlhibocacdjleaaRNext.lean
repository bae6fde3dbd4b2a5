/-
  The document's Next: the number at a place of a content, the place behind it, or what is wrong with it (nextS).
-/
import Derived.Test.YtlhibocacdjleaaNextS
import Derived.Deep.QuietTactic
import Derived.BigQuiet
namespace Go.Proofs.Ytlhibocacdjleaa
open Go.RowKit Go.IntWalk

theorem Src.spotB {w : World} {ao : Option Addr} {n cap : Nat} {xs : List Int} (h : Src w ao n cap xs) (k : Nat) (hk : k < n) : ∃ b off, ao = some ⟨b, off, none⟩ ∧ w.cell? ⟨b, off + k, none⟩ = some (.int .u8 (xs.getD k 0)) ∧ 0 ≤ xs.getD k 0 ∧ xs.getD k 0 < 256 := by
  have hl : k < xs.length := by rw [h.hlen]; exact hk
  obtain ⟨b, off, he, hc⟩ := h.hrd (by intro h0; rw [h0] at hl; simp at hl)
  refine ⟨b, off, he, hc k hl, ?_⟩
  have := h.hbyt (xs.getD k 0) (by simp [List.getD, List.getElem?_eq_getElem hl])
  exact this

/-- What Next answers at the place p. -/
def nextV (p : Nat) (r : Int × Nat × Int) : Value := .tuple #[.int .i64 r.1, .int .i64 (if r.2.2 = 0 then (p : Int) + (r.2.1 : Int) else 0), .int .i64 r.2.2]


set_option maxRecDepth 100000 in
set_option maxHeartbeats 1000000 in
theorem refNext_any (ao : Option Addr) (n cap : Nat) (xs : List Int) (p : Nat) (w : World) (hs : Src w ao n cap xs) (hN : n ≤ 140737488355328) (hp : p ≤ n) :
    Calls Try.prog 39 #[.slice ao n cap, .int .i64 p] w fun e w' => e = .returned (nextV p (nextS (xs.drop p))) ∧ Drawn w w' := by
  have HL := hide hs.hlen
  by_cases hlt : p < n
  · obtain ⟨b, off, rfl, e1, g0, g1⟩ := hs.spotB p hlt
    have pI : (p : Int) < (n : Int) := by omega
    by_cases hx : xs.getD p 0 = 128
    · have HV := hide (nextS_pad xs p (by rw [HL.out]; exact hlt) hx)
      rw [hx] at e1
      clear hx g0 g1
      go_enter Try.func39, Try.ntmps39
      go_wp2
      have hD := Drawn.refl w
      refine bodyPost_ret (v := .tuple #[.int .i64 0, .int .i64 0, .int .i64 30]) (by simp [results, Try.results39, go_sem]) rfl ⟨by rw [HV.out]; rfl, by first | exact hD | exact hD.more _ | exact Drawn.refl _ | exact (Drawn.refl _).more _⟩
    · have HV := hide (nextS_go xs p (by rw [HL.out]; exact hlt) hx)
      have hxb : (xs.getD p 0 == 128) = false := by simpa using hx
      clear hx
      generalize xs.getD p 0 = x at e1 hxb
      clear g0 g1
      go_enter Try.func39, Try.ntmps39
      go_wp2
      clear hxb e1 pI
      go_loopw [1, 7] (fun a v wr => ∃ (k : Nat) (N : Int), p + k ≤ n ∧ a = .int .i64 ((p : Int) + (k : Int)) ∧ v = .int .i64 N ∧ 0 ≤ N ∧ N ≤ 2147483647 ∧ Hid (nextS (xs.drop p) = nextGo N k (xs.drop (p + k))) ∧ Drawn w wr) (fun a _ _ => n - (intOf a).toNat)
      case atStart => exact ⟨0, 0, by omega, by simp, rfl, by omega, by omega, by simpa using HV, Drawn.refl _⟩
      case round =>
        obtain ⟨k, N, hk, rfl, rfl, hN0, hN1, hE, hD⟩ := hrel
        have hs' := hide (hs.heap hD.heap)
        by_cases hl2 : p + k < n
        · obtain ⟨b2, o2, he, e1, g0, g1⟩ := hs'.out.spotB (p + k) hl2
          simp at he
          obtain ⟨rfl, rfl⟩ := he
          have pI : (p : Int) + (k : Int) < (n : Int) := by omega
          have p0 : (0 : Int) ≤ (p : Int) + (k : Int) := by omega
          have pt : ((p : Int) + (k : Int)).toNat = p + k := by omega
          have hli : Hid (p + k < xs.length) := by unfold Hid; rw [HL.out]; exact hl2
          have G := hide (nextGo_great xs (p + k) N k hli.out)
          have L := hide (nextGo_last xs (p + k) N k hli.out)
          have M := hide (nextGo_more xs (p + k) N k hli.out)
          generalize xs.getD (p + k) 0 = x at e1 g0 g1 G L M
          have r1 : Int.tmod x 128 = x % 128 := Int.tmod_eq_emod_of_nonneg g0
          have gw : IntKind.i64.wrap (128 * N) = 128 * N := i64_in _ (by omega)
          have gw2 : IntKind.i64.wrap (128 * N + x % 128) = 128 * N + x % 128 := i64_in _ (by omega)
          have gw3 : IntKind.i64.wrap ((p : Int) + (k : Int) + 1) = (p : Int) + (k : Int) + 1 := i64_in _ (by omega)
          by_cases hg : 2147483647 < 128 * N + x % 128
          · have HE : Hid (nextS (xs.drop p) = (0, 0, 31)) := hE.out.trans (G.out hg)
            go_wp2
            refine bodyPost_ret (v := .tuple #[.int .i64 0, .int .i64 0, .int .i64 31]) (by simp [results, Try.results39, go_sem]) rfl ⟨by rw [HE.out]; rfl, by first | exact hD | exact hD.more _ | exact Drawn.refl _ | exact (Drawn.refl _).more _⟩
          · by_cases hx : x < 128
            · have HE : Hid (nextS (xs.drop p) = (128 * N + x % 128, k + 1, 0)) := hE.out.trans (L.out hg hx)
              go_wp2
              have hv : Hid (nextV p (128 * N + x % 128, k + 1, 0) = .tuple #[.int .i64 (128 * N + x % 128), .int .i64 ((p : Int) + (k : Int) + 1), .int .i64 0]) := by unfold Hid; simp [nextV, Int.add_assoc]
              refine bodyPost_ret (v := .tuple #[.int .i64 (128 * N + x % 128), .int .i64 ((p : Int) + (k : Int) + 1), .int .i64 0]) (by simp [results, Try.results39, go_sem]) rfl ⟨by rw [HE.out, hv.out], by first | exact hD | exact hD.more _⟩
            · have HE : Hid (nextS (xs.drop p) = nextGo (128 * N + x % 128) (k + 1) (xs.drop (p + k + 1))) := hE.out.trans (M.out hg hx)
              go_wp2
              go_roundw
              case rel => exact ⟨k + 1, 128 * N + x % 128, by omega, by go_num, rfl, by omega, by omega, HE, by first | exact hD | exact hD.more _⟩
              case measure => simp [intOf]; omega
        · have pI : ¬ (p : Int) + (k : Int) < (n : Int) := by omega
          have HE : Hid (nextS (xs.drop p) = (0, 0, 10)) := by unfold Hid; rw [hE.out, List.drop_of_length_le (by rw [HL.out]; omega)]; rfl
          go_wp2
          refine bodyPost_ret (v := .tuple #[.int .i64 0, .int .i64 0, .int .i64 10]) (by simp [results, Try.results39, go_sem]) rfl ⟨by rw [HE.out]; rfl, by first | exact hD | exact hD.more _ | exact Drawn.refl _ | exact (Drawn.refl _).more _⟩
  · have HV := hide (nextS_end xs p (by rw [HL.out]; exact hlt))
    have pI : ¬ (p : Int) < (n : Int) := by omega
    go_enter Try.func39, Try.ntmps39
    go_wp2
    go_loopw [1, 7] (fun a v wr => a = .int .i64 p ∧ v = .int .i64 0 ∧ Drawn w wr) (fun a _ _ => n - (intOf a).toNat)
    case atStart => exact ⟨rfl, rfl, Drawn.refl _⟩
    case round =>
      obtain ⟨rfl, rfl, hD⟩ := hrel
      go_wp2
      refine bodyPost_ret (v := .tuple #[.int .i64 0, .int .i64 0, .int .i64 10]) (by simp [results, Try.results39, go_sem]) rfl ⟨by rw [HV.out]; rfl, by first | exact hD | exact hD.more _ | exact Drawn.refl _ | exact (Drawn.refl _).more _⟩

end Go.Proofs.Ytlhibocacdjleaa
