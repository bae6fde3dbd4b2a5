/-
  NumReads answers true at any bytes, and writes nothing that was there.
-/
import Derived.Test.YtodhlmnjfkbocaaRToFlagsIt
import Derived.Test.YtodhlmnjfkbocaaRToBool
import Derived.Test.YtodhlmnjfkbocaaNLent
namespace Go.Proofs.Ytodhlmnjfkbocaa
open Go.RowKit Go.IntWalk

/-- What 'lent' answered, read. -/
theorem lent_src {w : World} {base g n c : Nat} {xs : List Int} (h : OwnB w base (.slice (some ⟨g, 0, none⟩) (n + 1) c) (xs ++ [90])) (hl : xs.length = n) (hb : ∀ x ∈ xs, 0 ≤ x ∧ x < 256) (hc : c ≤ maxLen) : Src w (some ⟨g, 0, none⟩) n c xs :=
  h.src (by intro x hx; simp at hx; rcases hx with hx | rfl; exact hb x hx; omega) n (by omega) (by rw [List.take_append_of_le_length (by omega), List.take_of_length_le (by omega)]) hc

theorem natV_sub (xs : List Int) : toNatV xs = [] ∨ toNatV xs = xs.drop 1 ∨ toNatV xs = xs := by
  unfold toNatV
  split
  · split
    · exact .inl rfl
    · split
      · exact .inr (.inl rfl)
      · exact .inr (.inr rfl)
  · exact .inl rfl
theorem bitsV_sub (xs : List Int) : toBitsV xs = [] ∨ toBitsV xs = xs.drop 1 ∨ toBitsV xs = xs := by
  unfold toBitsV
  split
  · exact .inr (.inl rfl)
  · exact .inl rfl
theorem sub_byte {xs ys : List Int} (hb : ∀ x ∈ xs, 0 ≤ x ∧ x < 256) (h : ys = [] ∨ ys = xs.drop 1 ∨ ys = xs) : ∀ x ∈ ys, 0 ≤ x ∧ x < 256 := by
  rcases h with h | h | h <;> rw [h]
  · simp
  · exact fun x hx => hb x (List.mem_of_mem_drop hx)
  · exact hb
theorem sub_len {xs ys : List Int} (h : ys = [] ∨ ys = xs.drop 1 ∨ ys = xs) : ys.length ≤ xs.length := by
  rcases h with h | h | h <;> rw [h] <;> simp

set_option maxRecDepth 100000 in
set_option maxHeartbeats 4000000 in
theorem reads_walk (ao : Option Addr) (n cap : Nat) (xs : List Int) (w : World) (hs : Src w ao n cap xs) (hn : n ≤ 140737488351232) :
    Calls Try.prog 8 #[.slice ao n cap] w fun e w' => e = .returned (.bool true) ∧ Below w.heap.size w w' := by
  have hby := hide hs.hbyt
  have hl := hide hs.hlen
  have nb := hide (sub_byte hby.out (natV_sub xs))
  have nl : Hid ((toNatV xs).length ≤ n) := by unfold Hid; have := sub_len (natV_sub xs); have := hl.out; omega
  have bb := hide (sub_byte hby.out (bitsV_sub xs))
  have bl : Hid ((toBitsV xs).length ≤ n) := by unfold Hid; have := sub_len (bitsV_sub xs); have := hl.out; omega
  have q1 : (toIntV xs == toIntV xs) = true := by simp
  have q2 : (toIntE xs == toIntE xs) = true := by simp
  have q3 : (toBoolV xs == toBoolV xs) = true := by simp
  have q4 : (toBoolE xs == toBoolE xs) = true := by simp
  have q5 : (toNatE xs == toNatE xs) = true := by simp
  have q6 : (toBitsU xs == toBitsU xs) = true := by simp
  have q7 : (toBitsE xs == toBitsE xs) = true := by simp
  have q8 : (toFlagsV xs == toFlagsV xs) = true := by simp
  have q9 : (toFlagsE xs == toFlagsE xs) = true := by simp
  go_enter Try.func8, Try.ntmps8
  go_wp2_with fail
  refine (nlent_any ao n cap xs _ hs hn).mono ?_
  rintro e w1 ⟨g, c, rfl, hc1, hm1, hg1, hgl1, hin, L⟩
  have s1 := lent_src hin hl.out hby.out hm1
  go_wp2_with fail
  refine (toInt_any _ n c xs _ s1).mono ?_
  rintro e w2 ⟨rfl, D2⟩
  have B2 := D2.below (Below.refl w1.heap.size w1)
  have hin := hin.belowA B2
  have L := L.trans (B2.mono L.size)
  clear s1 B2 D2
  go_wp2_with fail
  refine (refToInt_any _ n cap xs _ (hs.below L)).mono ?_
  rintro e w3 ⟨rfl, D3⟩
  have B3 := D3.below (Below.refl w2.heap.size w2)
  have hin := hin.belowA B3
  have L := L.trans (B3.mono L.size)
  have s3 := lent_src hin hl.out hby.out hm1
  clear B3 D3
  go_wp2_with fail
  refine (toBool_any _ n c xs _ s3).mono ?_
  rintro e w4 ⟨rfl, hw⟩
  subst hw
  clear s3
  go_wp2_with fail
  refine (refToBool_any _ n cap xs _ (hs.below L)).mono ?_
  rintro e w5 ⟨rfl, B5⟩
  have hin := hin.belowA B5
  have L := L.trans (B5.mono L.size)
  have s5 := lent_src hin hl.out hby.out hm1
  clear B5
  go_wp2_with fail
  refine (toNat_any _ n c xs _ s5 (by omega)).mono ?_
  rintro e w6 ⟨aX, cX, rfl, hX, B6⟩
  go_wp2_with fail
  refine (toNat_any _ n c xs _ (s5.below B6) (by omega)).mono ?_
  rintro e w7 ⟨aY, cY, rfl, hY, B7⟩
  go_wp2_with fail
  refine (refToNat_any _ n cap xs _ (((hs.below L).below B6).below B7) (by omega)).mono ?_
  rintro e w8 ⟨aZ, cZ, rfl, hZ, B8⟩
  have hXo := hX.toO
  have hYo := hY.toO
  go_wp2_with fail
  refine (own_any w5.heap.size _ _ _ _ _ _ _ _ _ (toNatV xs) _ nb.out ((hXo.below B7).below B8) ((hYo.below B8).src nb.out) (hZ.toSrc nb.out) (hXo.apart hYo (Nat.le_refl _)) (hXo.apart hZ.toO B7.size) (by have := nl.out; omega)).mono ?_
  rintro e w9 ⟨rfl, G9⟩
  have M : Below w5.heap.size w5 w8 := (B6.trans (B7.mono B6.size)).trans (B8.mono (Nat.le_trans B6.size B7.size))
  have hXl := hide ((hXo.below B7).below B8).lt
  have hin := (hin.belowA M).kept G9 (.inr (by intro h; have := (hXl.out g h.symm).1; have := hin.lt g rfl; omega))
  have L := (L.trans (M.mono L.size)).grown G9 (by have := L.size; have := M.size; omega) (by intro k hk; have h2 := (hXl.out k hk).1; have := L.size; omega)
  clear hX hY hZ hXo hYo B6 B7 B8 G9 M hXl s5
  have s9 := lent_src hin hl.out hby.out hm1
  go_wp2_with fail
  refine (toBits_any _ n c xs _ s9 (by omega)).mono ?_
  rintro e w10 ⟨aX2, cX2, rfl, hX, B6⟩
  go_wp2_with fail
  refine (toBits_any _ n c xs _ (s9.below B6) (by omega)).mono ?_
  rintro e w11 ⟨aY2, cY2, rfl, hY, B7⟩
  go_wp2_with fail
  refine (refToBits_any _ n cap xs _ (((hs.below L).below B6).below B7) (by omega)).mono ?_
  rintro e w12 ⟨aZ2, cZ2, rfl, hZ, B8⟩
  have hXo := hX.toO
  have hYo := hY.toO
  go_wp2_with fail
  refine (own_any w9.heap.size _ _ _ _ _ _ _ _ _ (toBitsV xs) _ bb.out ((hXo.below B7).below B8) ((hYo.below B8).src bb.out) (hZ.toSrc bb.out) (hXo.apart hYo (Nat.le_refl _)) (hXo.apart hZ.toO B7.size) (by have := bl.out; omega)).mono ?_
  rintro e w13 ⟨rfl, G9⟩
  have M : Below w9.heap.size w9 w12 := (B6.trans (B7.mono B6.size)).trans (B8.mono (Nat.le_trans B6.size B7.size))
  have hXl := hide ((hXo.below B7).below B8).lt
  have hin := (hin.belowA M).kept G9 (.inr (by intro h; have := (hXl.out g h.symm).1; have := hin.lt g rfl; omega))
  have L := (L.trans (M.mono L.size)).grown G9 (by have := L.size; have := M.size; omega) (by intro k hk; have h2 := (hXl.out k hk).1; have := L.size; omega)
  clear hX hY hZ hXo hYo B6 B7 B8 G9 M hXl s9
  have s13 := lent_src hin hl.out hby.out hm1
  go_wp2_with fail
  refine (toFlags_any _ n c xs _ s13 (by omega)).mono ?_
  rintro e w14 ⟨rfl, B14⟩
  have hin := hin.belowA B14
  have L := L.trans (B14.mono L.size)
  clear B14 s13
  go_wp2_with fail
  refine (refToFlags_any _ n cap xs _ (hs.below L) (by omega)).mono ?_
  rintro e w15 ⟨rfl, B15⟩
  have hin := hin.belowA B15
  have L := L.trans (B15.mono L.size)
  clear B15
  go_wp2_with fail
  refine (nkept_any g n c ao cap xs _ _ (hs.below L) hn hc1 hm1 hin).mono ?_
  rintro e w16 ⟨rfl, q, rfl⟩
  go_wp2_with fail
  refine (nnames_any _).mono ?_
  rintro e w17 ⟨rfl, rfl⟩
  go_wp2
  go_ret
  exact ⟨rfl, ⟨L.os, L.tape, L.output, L.size, L.block⟩⟩

end Go.Proofs.Ytodhlmnjfkbocaa
