/-
  The law's joined: pieces, one behind the other.
-/
import Derived.Test.YtgajejomibnghaaDoorSaHash
import Derived.Test.YtgajejomibnghaaDoorBts
namespace Go.Proofs.YtgajejomibnghaaDoor
open Go.RowKit Go.IntWalk

theorem SrcG.toS {w : World} {a : Option Addr} {n c : Nat} {xs : List Int} (h : SrcG .u8 256 w a n c xs) : Src w a n c xs := ⟨h.hlen, h.hcap, h.hmax, h.hnil, h.hrd, h.hdg⟩
theorem Src.toG {w : World} {a : Option Addr} {n c : Nat} {xs : List Int} (h : Src w a n c xs) : SrcG .u8 256 w a n c xs := ⟨h.hlen, h.hcap, h.hmax, h.hnil, h.hrd, h.hbyt⟩
theorem OwnB.toSG {w : World} {base m c : Nat} {ao : Option Addr} {xs : List Int} (h : OwnB w base (.slice ao m c) xs) (hb : Dg 256 xs) : SrcG .u8 256 w ao m c xs := OwnG.toSrc (κ := .u8) (T := 5) h hb

theorem Pcs0.dg {w : World} {po : Option Addr} {pn : Nat} {ls : List (List Int)} (h : Pcs0 w po pn ls) : ∀ l ∈ ls, Dg 256 l := by
  intro l hl
  obtain ⟨i, hi, rfl⟩ := List.getElem_of_mem hl
  obtain ⟨b, off, _, hr⟩ := h.row (by rw [← h.len]; omega)
  obtain ⟨a, n, c, _, h2⟩ := hr i (by rw [← h.len]; exact hi)
  have := h2.hdg
  simpa [List.getD, hi] using this
theorem flat_dg {ls : List (List Int)} (h : ∀ l ∈ ls, Dg 256 l) (k : Nat) : Dg 256 (ls.take k).flatten := by
  intro x hx
  obtain ⟨l, hl, hx⟩ := List.mem_flatten.1 hx
  exact h l (List.mem_of_mem_take hl) x hx
theorem own_shape {w : World} {base : Nat} {v : Value} {xs : List Int} (h : OwnB w base v xs) : ∃ a n c, v = .slice a n c ∧ n = xs.length := by
  rcases h.split with ⟨hv, hx⟩ | ⟨g, c, hv, _⟩
  · subst hx
    exact ⟨none, 0, 0, hv, rfl⟩
  · exact ⟨_, _, c, hv, rfl⟩

set_option maxRecDepth 100000 in
set_option maxHeartbeats 2000000 in
theorem joined_any (po : Option Addr) (pn pc : Nat) (ls : List (List Int)) (F : List Int) (hF : ls.flatten = F) (N : Nat) (hN : F.length = N) (w : World) (hP : Pcs0 w po pn ls) (hb : N ≤ 1099511627776) (hpn : pn ≤ 140737488355328) :
    Calls Tryd.prog 10 #[.slice po pn pc] w fun e w' => ∃ a c, e = .returned (.slice a N c) ∧ SrcG .u8 256 w' a N c F ∧ Below w.heap.size w w' := by
  have HP := hide hP
  have HL := hide hP.len
  have HD := hide hP.dg
  have HF : Hid (ls.flatten.length ≤ 1099511627776) := by unfold Hid; rw [hF, hN]; exact hb
  have HFe := hide hF
  have HNe := hide hN
  have pI : (pn : Int) ≤ 140737488355328 := by omega
  clear hP hb hF hN
  go_enter Tryd.func10, Tryd.ntmps10
  go_wp2
  go_loopw [3, 4] (fun v i wr => ∃ (k : Nat) (a : Option Addr) (n c : Nat), v = .slice a n c ∧ i = .int .i64 (k : Int) ∧ k ≤ pn ∧ Hid (n = (ls.take k).flatten.length) ∧ Hid (OwnB wr w.heap.size (.slice a n c) (ls.take k).flatten) ∧ Hid (Below w.heap.size w wr)) (fun _ i _ => pn - (intOf i).toNat)
  case atStart => exact ⟨0, none, 0, 0, rfl, rfl, by omega, rfl, OwnB.nil _ _, Below.refl _ _⟩
  case round =>
    obtain ⟨k, a, n, c, rfl, rfl, hk, HN, HO, HB⟩ := hrel
    by_cases hlt : k < pn
    · have kI : (k : Int) < (pn : Int) := by omega
      obtain ⟨b, off, rfl, hr⟩ := (HP.out.below HB.out).row (by omega)
      obtain ⟨a', m, c', h1, h2⟩ := hr k hlt
      have HS := hide h2.toS
      have HM := hide h2.hlen
      have HNX := hide (flat_take ls k (by rw [HL.out]; exact hlt))
      have HFL := hide (flat_le ls (k + 1))
      have hs := HB.out.size
      clear h2 hr
      go_wp2_with (at_builtin; refine wpList_appB _ rfl (.tmp 11) (.tmp 15) rfl w.heap.size (.slice a n c) (ls.take k).flatten rfl HO.out a' m c' (ls.getD k []) rfl HS.out (by have h1 := HFL.out; have h2 := HF.out; have h3 := HM.out; rw [HNX.out, List.length_append] at h1; omega) hs ?_; intro v' w' ho' hg' hne'; obtain ⟨a2, n2, c2, hv2, hn2⟩ := own_shape ho'; subst hv2; have HN2 := hide hn2; clear hn2)
      go_roundw
      case rel => exact ⟨k + 1, a2, n2, c2, rfl, by go_num, by omega, by unfold Hid; rw [HNX.out]; exact HN2.out, by unfold Hid; rw [HNX.out]; exact ho', HB.out.grown hg' hs (fun q hq => (World.ownsRow.lt HO.out q hq).1)⟩
      case measure => simp [intOf]; omega
    · obtain rfl : k = pn := by omega
      have e : ls.take k = ls := List.take_of_length_le (by rw [HL.out]; exact Nat.le_refl _)
      rw [e, HFe.out] at HN HO
      have hn : n = N := HN.out.trans HNe.out
      subst hn
      have HSF := hide (HO.out.toSG (by have := flat_dg HD.out k; rwa [e, HFe.out] at this))
      clear e
      go_wp2
      go_ret
      exact ⟨a, c, rfl, HSF.out, HB.out⟩

end Go.Proofs.YtgajejomibnghaaDoor
