/-
  DerPuts answers true at any bytes, any number and any byte strings that are not too great, and writes nothing that was there.
-/
import Derived.Test.YtdoijgkdmfchaaaLents
import Derived.Test.YtdoijgkdmfchaaaRPutIt
namespace Go.Proofs.Ytdoijgkdmfchaaa
open Go.RowKit Go.IntWalk

theorem lenB_len4 (n : Nat) : (lenB n).length ≤ 4 := by
  unfold lenB; split
  · simp
  · have := digs_len n; simp; omega

theorem putS_len (bs : List Int) (tag : Int) (ls : List (List Int)) : (putS bs tag ls).1.length ≤ bs.length + 16777221 := by
  unfold putS
  split
  · simp
  · split
    · simp
    · have h4 := lenB_len4 ls.flatten.length
      simp only [List.length_append, List.length_singleton]
      omega

theorem putS_byte (bs : List Int) (tag : Int) (ls : List (List Int)) (hb : ∀ x ∈ bs, 0 ≤ x ∧ x < 256) (hl : ∀ l ∈ ls, ∀ x ∈ l, 0 ≤ x ∧ x < 256) : ∀ x ∈ (putS bs tag ls).1, 0 ≤ x ∧ x < 256 := by
  intro x hx
  unfold putS at hx
  split at hx
  · simp at hx
  · rename_i ht
    split at hx
    · simp at hx
    · have hT : isTagB tag = true := by simpa using ht
      have := tag_bd hT
      simp only [List.mem_append, List.mem_singleton] at hx
      rcases hx with ((hx | rfl) | hx) | hx
      · exact hb x hx
      · omega
      · exact lenB_byte _ (by omega) x hx
      · obtain ⟨l, hl', hx⟩ := List.mem_flatten.1 hx
        exact hl l hl' x hx

theorem Parts.byte {w : World} {ao : Option Addr} {n cap : Nat} {vs : List Value} {ls : List (List Int)} (h : Parts w ao n cap vs ls) : ∀ l ∈ ls, ∀ x ∈ l, 0 ≤ x ∧ x < 256 := by
  intro l hl x hx
  obtain ⟨k, hk, rfl⟩ := List.mem_iff_getElem.1 hl
  obtain ⟨_, _, _, _, hs⟩ := h.heach k (by rw [← h.hll]; exact hk)
  exact hs.hbyt x (by simpa [List.getD, List.getElem?_eq_getElem hk] using hx)

/-- A world that has drawn more, and no more. -/
structure Drawn (w W : World) : Prop where
  os : W.os = w.os
  tape : W.tape = w.tape
  output : W.output = w.output
  heap : W.heap = w.heap

theorem Drawn.refl (w : World) : Drawn w w := ⟨rfl, rfl, rfl, rfl⟩
theorem Drawn.more {w W : World} (h : Drawn w W) (q : Nat) : Drawn w (W.drewN q) := ⟨h.os, h.tape, h.output, h.heap⟩
theorem Drawn.cell {w W : World} (h : Drawn w W) (a : Addr) : W.cell? a = w.cell? a := by unfold World.cell?; rw [h.heap]
theorem Drawn.below {w W w0 : World} {B : Nat} (h : Drawn w W) (hb : Below B w0 w) : Below B w0 W := ⟨h.os.trans hb.os, h.tape.trans hb.tape, h.output.trans hb.output, by rw [h.heap]; exact hb.size, fun k hk => by rw [h.heap]; exact hb.block k hk⟩

set_option maxRecDepth 100000 in
set_option maxHeartbeats 8000000 in
theorem puts_walk (ab : Option Addr) (nb cb : Nat) (bs : List Int) (tag : Int) (ao : Option Addr) (n cap : Nat) (vs : List Value) (ls : List (List Int)) (w : World)
    (hb : Src w ab nb cb bs) (hp : Parts w ao n cap vs ls) (hnb : nb ≤ 1048576) (hn : n ≤ 1048576) (hsm : ∀ i, i < n → (ls.getD i []).length ≤ 1048576) :
    Calls Try.prog 3 #[.slice ab nb cb, .int .i64 tag, .slice ao n cap] w fun e w' => e = .returned (.bool true) ∧ Below w.heap.size w w' := by
  have hlb := hide hb.hlen
  have hbb := hide hb.hbyt
  have hll := hide hp.hll
  have hpb := hide hp.byte
  have hsm' := hide hsm
  clear hsm
  go_enter Try.func3, Try.ntmps3
  go_wp2_with fail
  refine (lent_any ab nb cb bs _ hb (by omega)).mono ?_
  rintro e w1 ⟨g, c, rfl, hc1, hm1, hg1, hgl1, hin, B1⟩
  go_wp2_with fail
  go_loopw [8, 9] (fun v j wr => ∃ (i : Nat) (au : Option Addr) (cu : Nat) (us : List Value), i ≤ n ∧ j = .int .i64 i ∧ v = .slice au i cu ∧ OwnV wr w.heap.size (.slice au i cu) us ∧ Lents wr w.heap.size us (ls.take i) ∧
      OwnB wr w.heap.size (.slice (some ⟨g, 0, none⟩) (nb + 1) c) (bs ++ [90]) ∧ Below w.heap.size w wr ∧ g < wr.heap.size) (fun _ j _ => n - (intOf j).toNat)
  case atStart => exact ⟨0, none, 0, [], Nat.zero_le _, rfl, rfl, OwnV.nil _ _, by simpa using Lents.nil _ _, hin, B1, hgl1⟩
  case round =>
    obtain ⟨i, au, cu, us, hin1, rfl, rfl, hou, hle, hoi, hbel, hgl⟩ := hrel
    by_cases hlt : i < n
    · obtain ⟨b, off, rfl, hc⟩ := hp.hrd (by omega)
      obtain ⟨ai, mi, ci, hv, hs⟩ := hp.heach i hlt
      have hci := hc i hlt
      rw [hv] at hci
      have hci := (hbel.cell (p := ⟨b, off + i, none⟩) (lt_of_cell hci)).trans hci
      have hlm := hide hs.hlen
      have hmi : mi ≤ 1048576 := by rw [← hlm.out]; exact hsm'.out i hlt
      have hul : Hid (us.length = i) := by
        have h1 := hle.len
        unfold Hid
        rw [h1, List.length_take, hll.out]
        omega
      clear hc hv
      go_wp2_with (first | (go_at_call 9; refine (lent_any ai mi ci (ls.getD i []) _ (hs.below hbel) (by omega)).mono ?_; rintro e w2 ⟨g2, c2, rfl, hc2, hm2, hg2, hgl2, hin2, B2⟩; have z2 := B2.size; have z0 := hbel.size) | (at_builtin; refine wpList_appV _ rfl (.tmp 25) (.tmp 31) rfl w.heap.size (.slice au i cu) us rfl ((hou.belowA B2).alloc _) w2.heap.size (some ⟨g2, 0, none⟩) mi c2 rfl (by simp) (i + 1) (by rw [hul.out]) (by omega) (by simp; omega) ?_; intro g3 c3 w3 ho3 hb3 hl3 hc3 hm3 hgr3))
      go_roundw
      case rel =>
        have a2 : OwnV (w2.alloc _) w.heap.size (.slice au i cu) us := (hou.belowA B2).alloc (.cells #[.slice (some ⟨g2, 0, none⟩) mi c2] 22)
        have bA : Below w2.heap.size w2 (w2.alloc (.cells #[.slice (some ⟨g2, 0, none⟩) mi c2] 22)) := (Below.refl _ _).alloc (Nat.le_refl _) _
        have l1 := (hle.belowA B2).snoc g2 mi c2 (ls.getD i []) hlm.out hc2 hm2 (by omega) hgl2 (hin2.rebase z0)
        have l2 := (l1.belowA bA).grown hgr3 (fun g n c xs h _ => own_types h a2)
        have eT : ls.take (i + 1) = ls.take i ++ [ls.getD i []] := by
          have hi' : i < ls.length := by rw [hll.out]; exact hlt
          rw [List.take_succ_eq_append_getElem hi']
          simp [List.getD, List.getElem?_eq_getElem hi']
        have o1 := ((hoi.belowA B2).belowA bA)
        have o2 := o1.kept hgr3 (.inr (fun he => own_types o1 a2 he.symm))
        have b2 : Below w.heap.size w w2 := hbel.trans (B2.mono z0)
        have b3 : Below w.heap.size w w3 := (b2.alloc b2.size _).grown hgr3 (by simp; omega) (fun k hk => (a2.lt k hk).1)
        refine ⟨i + 1, some ⟨g3, 0, none⟩, c3, us ++ [.slice (some ⟨g2, 0, none⟩) mi c2], by omega, by go_num, rfl, ho3, ?_, o2, b3, ?_⟩
        · rw [eT]; exact l2
        · have := hgr3.size; simp at this; omega
      case measure => simp [intOf]; omega
    · obtain rfl : i = n := by omega
      have eT : ls.take i = ls := List.take_of_length_le (by rw [hll.out]; exact Nat.le_refl _)
      rw [eT] at hle
      clear eT
      have z0 := hbel.size
      have sI : Src wr (some ⟨g, 0, none⟩) nb c bs := hoi.src (by intro x hx; simp at hx; rcases hx with hx | rfl; exact hbb.out x hx; omega) nb (by omega) (by rw [List.take_append_of_le_length (by rw [hlb.out]; exact Nat.le_refl _), List.take_of_length_le (by rw [hlb.out]; exact Nat.le_refl _)]) hm1
      have pI : Parts wr au i cu us ls := hle.parts hpb.out au i cu hou
      go_wp2_with fail
      refine (put_any _ nb c bs tag au i cu us ls _ sI pI (by omega) (by omega)).mono ?_
      rintro e w4 ⟨aX, mX, cX, rfl, hX, B4⟩
      go_wp2_with fail
      refine (put_any _ nb c bs tag au i cu us ls _ (sI.below B4) (pI.below B4) (by omega) (by omega)).mono ?_
      rintro e w5 ⟨aY, mY, cY, rfl, hY, B5⟩
      have z4 := B4.size
      have z5 := B5.size
      have D5 : Below w.heap.size w w5 := (hbel.trans (B4.mono z0)).trans (B5.mono (by omega))
      go_wp2_with fail
      refine (refPut_any _ nb cb bs tag ao i cap vs ls _ (hb.below D5) (hp.below D5) (by omega) (by omega)).mono ?_
      rintro e w6 ⟨aZ, mZ, cZ, rfl, hZ, B6⟩
      have z6 := B6.size
      have D6 : Below w.heap.size w w6 := D5.trans (B6.mono D5.size)
      have E6 : Below wr.heap.size wr w6 := (B4.trans (B5.mono z4)).trans (B6.mono (by omega))
      have pb := hide (putS_byte bs tag ls hbb.out hpb.out)
      have plen := hide (putS_len bs tag ls)
      have F6 : Below w4.heap.size w4 w6 := B5.trans (B6.mono z5)
      have sX := (hX.toSrc pb.out).below F6
      have sY := (hY.toSrc pb.out).below B6
      have sZ := hZ.toSrc pb.out
      have tX := sX.text
      have tZ := sZ.text
      go_wp2_with fail
      refine (spoil_any _ _ (putS bs tag ls).1 _ (hX.belowA F6) (by have := plen.out; rw [hlb.out] at this; omega) (by omega)).mono ?_
      rintro e w7 ⟨rfl, g7⟩
      have E7 : Below wr.heap.size wr w7 := E6.grown g7 E6.size (fun k hk => (hX.lt k hk).1)
      have D7 : Below w.heap.size w w7 := D6.grown g7 D6.size (fun k hk => by have := (hX.lt k hk).1; omega)
      have sY := sY.apart g7 (own_apart hX hY (Nat.le_refl _))
      have sZ := sZ.apart g7 (own_apart hX hZ z5)
      have hou := hou.belowA E7
      have hle := hle.belowA E7
      have hoi := hoi.belowA E7
      have hb7 := hb.below D7
      have hp7 := hp.below D7
      have hul : us.length = i := by rw [hle.len, hll.out]
      have HUL := hide hul
      clear tX tZ sX hul
      go_wp2_with fail
      go_loopw [16] (fun s W => ∃ (j : Nat), j ≤ i ∧ s = .int .i64 j ∧ Drawn w7 W) (fun s _ => i - (intOf s).toNat)
      case atStart => exact ⟨0, Nat.zero_le _, rfl, Drawn.refl _⟩
      case round =>
        obtain ⟨j, hj, rfl, hdr⟩ := hrel
        by_cases hlt2 : j < i
        · obtain ⟨b, off, rfl, hc⟩ := hp7.hrd (by omega)
          obtain ⟨aj, mj, cj, hv, hs⟩ := hp7.heach j hlt2
          have hcj := hc j hlt2
          rw [hv] at hcj
          rcases hou.split with ⟨_, hus⟩ | ⟨gu, capu, hue, _⟩
          · have := HUL.out; rw [hus] at this; simp at this; omega
          · simp only [Value.slice.injEq] at hue
            obtain ⟨rfl, _, _⟩ := hue
            obtain ⟨gj, cpj, k1, k2, k3, k4, k5, k6⟩ := hle.each j (by rw [HUL.out]; exact hlt2)
            have hcu := hou.cell j (by rw [HUL.out]; exact hlt2) (.slice none 0 0)
            rw [k1] at hcu
            rw [hs.hlen] at hcu k2 k6
            have hmj : mj ≤ 1048576 := by rw [← hs.hlen]; exact hsm'.out j hlt2
            have i1 : (0 : Int) ≤ (j : Int) := by omega
            have i2 : (j : Int) < (us.length : Int) := by rw [HUL.out]; omega
            have hcj := (hdr.cell _).trans hcj
            have hcu := (hdr.cell _).trans hcu
            have hs := hs.heap hdr.heap
            have k6 := k6.heap hdr.heap
            clear hc hv k1
            go_wp2_with fail
            go_quiet ((go_at_call 13; exact Calls.quiet_of (kept_any gj mj cpj aj cj (ls.getD j []) _ w.heap.size (by exact hs.heap rfl) (by omega) k2 k3 (by exact k6.heap rfl))))
            go_wp2
            go_roundw
            case rel => exact ⟨j + 1, by omega, by go_num, hdr.more _⟩
            case measure => simp [intOf]; omega
        · obtain rfl : j = i := by omega
          have tY := (sY.heap hdr.heap).text
          have tZ := (sZ.heap hdr.heap).text
          go_wp2_with fail
          refine (kept_any g nb c ab cb bs _ w.heap.size (hb7.heap hdr.heap) (by omega) hc1 hm1 (hoi.heap hdr.heap)).mono ?_
          rintro e w8 ⟨rfl, q2, rfl⟩
          go_wp2_with fail
          refine (names_any _).mono ?_
          rintro e w9 ⟨rfl, rfl⟩
          go_wp2
          go_ret
          exact ⟨rfl, (hdr.more _).below D7⟩

end Go.Proofs.Ytdoijgkdmfchaaa
