/-
  A Keyed in memory; what its two Hashes take.
-/
import Derived.Test.YtgajejomibnghaaDoorSaKeyB
namespace Go.Proofs.YtgajejomibnghaaDoor
open Go.RowKit Go.IntWalk

attribute [local go_sem ↓] ld_words ld_part ld_sched ld_hash ld_dig ld_arr st_words st_part st_sched st_hash st_dig st_arr ix_words bd_hash bd_keyed bd_dig

/-- Block g holds two Hashes: one that has taken ys, one that has taken zs. -/
def Ks (w : World) (g : Nat) (ys zs : List Int) : Prop :=
  ∃ p1 p2, Blk 75 w g (hV (st ys) p1 ys.length ++ hV (st zs) p2 zs.length) ∧ (p1.length = 64 ∧ Dg 256 p1 ∧ p1.take (ys.length % 64) = tail ys) ∧ (p2.length = 64 ∧ Dg 256 p2 ∧ p2.take (zs.length % 64) = tail zs)

theorem Ks.first {w : World} {g : Nat} {ys zs : List Int} (h : Ks w g ys zs) : ∃ C, Hs 75 w g [] C ys ∧ ∀ w' ys', Hs 75 w' g [] C ys' → Ks w' g ys' zs := by
  obtain ⟨p1, p2, hB, h1, h2⟩ := h
  refine ⟨_, ⟨p1, by simpa using hB, h1⟩, ?_⟩
  rintro w' ys' ⟨p, hb, hp⟩
  exact ⟨p, p2, by simpa using hb, hp, h2⟩

theorem Ks.second {w : World} {g : Nat} {ys zs : List Int} (h : Ks w g ys zs) : ∃ A, A.length = 74 ∧ Hs 75 w g A [] zs ∧ ∀ w' zs', Hs 75 w' g A [] zs' → Ks w' g ys zs' := by
  obtain ⟨p1, p2, hB, h1, h2⟩ := h
  refine ⟨_, hV_len _ _ _ (st_len ys) h1.1, ⟨p2, by simpa using hB, h2⟩, ?_⟩
  rintro w' zs' ⟨p, hb, hp⟩
  exact ⟨p1, p, by simpa using hb, h1, hp⟩

theorem Ks.lt {w : World} {g : Nat} {ys zs : List Int} (h : Ks w g ys zs) : g < w.heap.size := by obtain ⟨_, _, h, _⟩ := h; exact h.lt
theorem Ks.below {w w' : World} {g : Nat} {ys zs : List Int} (h : Ks w g ys zs) (hb : Below w.heap.size w w') : Ks w' g ys zs := by
  obtain ⟨p1, p2, h, r⟩ := h
  exact ⟨p1, p2, h.below hb, r⟩
theorem Ks.alloc {w : World} {g : Nat} {ys zs : List Int} (h : Ks w g ys zs) (ob : Obj) : Ks (w.alloc ob) g ys zs := h.below ((Below.refl _ _).alloc (Nat.le_refl _) _)
theorem Ks.heap {w w' : World} {g : Nat} {ys zs : List Int} (h : Ks w g ys zs) (e : w'.heap = w.heap) : Ks w' g ys zs := by
  obtain ⟨p1, p2, h, r⟩ := h
  exact ⟨p1, p2, h.heap e, r⟩
theorem Ks.kept {w w' : World} {g : Nat} {ys zs : List Int} {row : Option Nat} (h : Ks w g ys zs) (hg : w.grownBy w' row) (hne : some g ≠ row) : Ks w' g ys zs := by
  obtain ⟨p1, p2, h, r⟩ := h
  exact ⟨p1, p2, h.kept hg hne, r⟩

theorem ks_new {w : World} {g : Nat} (h : Blk 75 w g (h0V ++ h0V)) : Ks w g [] [] := by
  have hz : Dg 256 (List.replicate 64 (0 : Int)) := by
    intro x hx
    simp at hx
    omega
  exact ⟨List.replicate 64 0, List.replicate 64 0, h, ⟨by simp, hz, rfl⟩, ⟨by simp, hz, rfl⟩⟩

set_option maxRecDepth 100000 in
set_option maxHeartbeats 2000000 in
theorem new_eq (w : World) (hT : Tabs w) :
    Calls Tryd.prog 14 #[] w fun e w' => e = .returned (.pointer (some ⟨w.heap.size, 0, none⟩)) ∧ w' = w.alloc (.cells h0V.toArray 73) := by
  have hld : (ldA 70 (.pointer (some ⟨0, 0, none⟩))).run Tryd.prog w = .ok (.agg (hL.map (Value.int .u32)).toArray) w :=
    run_loadAt_mid w 0 0 70 (hL.map (Value.int .u32)) _ hT.h Tryd.underlying70 rfl (by kernel_rfl)
  have hbd : (bdA 73 #[(0, .bool true), (1, .agg (hL.map (Value.int .u32)).toArray)]).run Tryd.prog w = .ok (.agg h0V.toArray) w := by kernel_rfl
  clear hT
  go_enter Tryd.func14, Tryd.ntmps14
  go_wp2
  go_ret
  exact ⟨rfl, rfl⟩

/-- A piece, taken by the first or the second Hash of a Keyed. -/
theorem take_first (g b : Nat) (ys zs : List Int) (a : Option Addr) (n c : Nat) (xs : List Int) (w : World) (hK : Ks w g ys zs) (hc : w.cell? ⟨b, 0, none⟩ = some (.slice a n c)) (hbg : b ≠ g) (hs : SrcG .u8 256 w a n c xs) (ha : ∀ b' o', a = some ⟨b', o', none⟩ → xs ≠ [] → b' ≠ g) (hT : Tabs w) (h2 : 2 ≤ g) (hl : ys.length + xs.length ≤ 1152921504606846976) :
    Calls Tryd.prog 28 #[.pointer (some ⟨g, 0, none⟩), .slice (some ⟨b, 0, none⟩) 1 1] w fun e w' => e = .returned (.tuple #[]) ∧ Ks w' g (ys ++ xs) zs ∧ w.grownBy w' (some g) := by
  obtain ⟨C, hH, hb⟩ := hK.first
  refine (take_any 75 g 0 [] C ys (some ⟨b, 0, none⟩) 1 1 [xs] w hH rfl (Pcs.one hc hbg hs ha) hT h2 (by simp; omega) (by omega)).mono ?_
  rintro e w' ⟨he, h1, h2⟩
  exact ⟨he, hb _ _ (by simpa using h1), h2⟩

theorem take_second (g b : Nat) (ys zs : List Int) (a : Option Addr) (n c : Nat) (xs : List Int) (w : World) (hK : Ks w g ys zs) (hc : w.cell? ⟨b, 0, none⟩ = some (.slice a n c)) (hbg : b ≠ g) (hs : SrcG .u8 256 w a n c xs) (ha : ∀ b' o', a = some ⟨b', o', none⟩ → xs ≠ [] → b' ≠ g) (hT : Tabs w) (h2 : 2 ≤ g) (hl : zs.length + xs.length ≤ 1152921504606846976) :
    Calls Tryd.prog 28 #[.pointer (some ⟨g, 74, none⟩), .slice (some ⟨b, 0, none⟩) 1 1] w fun e w' => e = .returned (.tuple #[]) ∧ Ks w' g ys (zs ++ xs) ∧ w.grownBy w' (some g) := by
  obtain ⟨A, hA, hH, hb⟩ := hK.second
  refine (take_any 75 g 74 A [] zs (some ⟨b, 0, none⟩) 1 1 [xs] w hH hA (Pcs.one hc hbg hs ha) hT h2 (by simp; omega) (by omega)).mono ?_
  rintro e w' ⟨he, h1, h2⟩
  exact ⟨he, hb _ _ (by simpa using h1), h2⟩

/-- Two arrays of 64 bytes that are laid into new variables. -/
theorem two_arrays (w V : World) (X Y : List Int) (hX : X.length = 64) (hY : Y.length = 64) (b1 : Blk 71 V w.heap.size (List.replicate 64 (.int .u8 0))) (b2 : Blk 71 V (w.heap.size + 1) (List.replicate 64 (.int .u8 0))) (b0 : Below w.heap.size w V) (s0 : w.heap.size + 1 + 1 ≤ V.heap.size) :
    ∃ V1 V2, (stA 71 (.pointer (some ⟨w.heap.size, 0, none⟩)) (.agg (X.map (Value.int .u8)).toArray)).run Tryd.prog V = .ok () V1 ∧
    (stA 71 (.pointer (some ⟨w.heap.size + 1, 0, none⟩)) (.agg (Y.map (Value.int .u8)).toArray)).run Tryd.prog V1 = .ok () V2 ∧ Blk 71 V2 w.heap.size (X.map (Value.int .u8)) ∧ Blk 71 V2 (w.heap.size + 1) (Y.map (Value.int .u8)) ∧ Below w.heap.size w V2 ∧ w.heap.size + 1 + 1 ≤ V2.heap.size := by
  have hi1 : (Tryd.prog.info? 71).map (·.size) = some (X.map (Value.int .u8)).length := by rw [List.length_map, hX]; kernel_rfl
  have hi2 : (Tryd.prog.info? 71).map (·.size) = some (Y.map (Value.int .u8)).length := by rw [List.length_map, hY]; kernel_rfl
  have b3 := Blk.mid [] _ [] (X.map (Value.int .u8)) 0 V (by simpa using b1) rfl (by simp [hX])
  rw [List.nil_append, List.append_nil] at b3
  have g3 := gSets w.heap.size (X.map (Value.int .u8)) 0 V
  have b4 := b2.kept g3.1 (fun h => by have := Option.some.inj h; omega)
  have b5 := Blk.mid [] _ [] (Y.map (Value.int .u8)) 0 _ (by simpa using b4) rfl (by simp [hY])
  rw [List.nil_append, List.append_nil] at b5
  have g5 := gSets (w.heap.size + 1) (Y.map (Value.int .u8)) 0 (V.setCells w.heap.size 0 (X.map (Value.int .u8)))
  exact ⟨_, _, stA_all hi1 b1 (by simp [hX]) (ints_one _ _), stA_all hi2 b4 (by simp [hY]) (ints_one _ _), b3.kept g5.1 (fun h => by have := Option.some.inj h; omega), b5, below_sets (below_sets b0 (Nat.le_refl _) b0.size _ _) (by omega) (by rw [g3.2]; exact b0.size) _ _, by rw [g5.2, g3.2]; exact s0⟩

theorem two_new (w : World) : Blk 71 ((w.alloc (.cells #[.int .u8 0, .int .u8 0, .int .u8 0, .int .u8 0, .int .u8 0, .int .u8 0, .int .u8 0, .int .u8 0, .int .u8 0, .int .u8 0, .int .u8 0, .int .u8 0, .int .u8 0, .int .u8 0, .int .u8 0, .int .u8 0, .int .u8 0, .int .u8 0, .int .u8 0, .int .u8 0, .int .u8 0, .int .u8 0, .int .u8 0, .int .u8 0, .int .u8 0, .int .u8 0, .int .u8 0, .int .u8 0, .int .u8 0, .int .u8 0, .int .u8 0, .int .u8 0, .int .u8 0, .int .u8 0, .int .u8 0, .int .u8 0, .int .u8 0, .int .u8 0, .int .u8 0, .int .u8 0, .int .u8 0, .int .u8 0, .int .u8 0, .int .u8 0, .int .u8 0, .int .u8 0, .int .u8 0, .int .u8 0, .int .u8 0, .int .u8 0, .int .u8 0, .int .u8 0, .int .u8 0, .int .u8 0, .int .u8 0, .int .u8 0, .int .u8 0, .int .u8 0, .int .u8 0, .int .u8 0, .int .u8 0, .int .u8 0, .int .u8 0, .int .u8 0] 71)).alloc (.cells #[.int .u8 0, .int .u8 0, .int .u8 0, .int .u8 0, .int .u8 0, .int .u8 0, .int .u8 0, .int .u8 0, .int .u8 0, .int .u8 0, .int .u8 0, .int .u8 0, .int .u8 0, .int .u8 0, .int .u8 0, .int .u8 0, .int .u8 0, .int .u8 0, .int .u8 0, .int .u8 0, .int .u8 0, .int .u8 0, .int .u8 0, .int .u8 0, .int .u8 0, .int .u8 0, .int .u8 0, .int .u8 0, .int .u8 0, .int .u8 0, .int .u8 0, .int .u8 0, .int .u8 0, .int .u8 0, .int .u8 0, .int .u8 0, .int .u8 0, .int .u8 0, .int .u8 0, .int .u8 0, .int .u8 0, .int .u8 0, .int .u8 0, .int .u8 0, .int .u8 0, .int .u8 0, .int .u8 0, .int .u8 0, .int .u8 0, .int .u8 0, .int .u8 0, .int .u8 0, .int .u8 0, .int .u8 0, .int .u8 0, .int .u8 0, .int .u8 0, .int .u8 0, .int .u8 0, .int .u8 0, .int .u8 0, .int .u8 0, .int .u8 0, .int .u8 0] 71)) w.heap.size (List.replicate 64 (.int .u8 0)) ∧ Blk 71 ((w.alloc (.cells #[.int .u8 0, .int .u8 0, .int .u8 0, .int .u8 0, .int .u8 0, .int .u8 0, .int .u8 0, .int .u8 0, .int .u8 0, .int .u8 0, .int .u8 0, .int .u8 0, .int .u8 0, .int .u8 0, .int .u8 0, .int .u8 0, .int .u8 0, .int .u8 0, .int .u8 0, .int .u8 0, .int .u8 0, .int .u8 0, .int .u8 0, .int .u8 0, .int .u8 0, .int .u8 0, .int .u8 0, .int .u8 0, .int .u8 0, .int .u8 0, .int .u8 0, .int .u8 0, .int .u8 0, .int .u8 0, .int .u8 0, .int .u8 0, .int .u8 0, .int .u8 0, .int .u8 0, .int .u8 0, .int .u8 0, .int .u8 0, .int .u8 0, .int .u8 0, .int .u8 0, .int .u8 0, .int .u8 0, .int .u8 0, .int .u8 0, .int .u8 0, .int .u8 0, .int .u8 0, .int .u8 0, .int .u8 0, .int .u8 0, .int .u8 0, .int .u8 0, .int .u8 0, .int .u8 0, .int .u8 0, .int .u8 0, .int .u8 0, .int .u8 0, .int .u8 0] 71)).alloc (.cells #[.int .u8 0, .int .u8 0, .int .u8 0, .int .u8 0, .int .u8 0, .int .u8 0, .int .u8 0, .int .u8 0, .int .u8 0, .int .u8 0, .int .u8 0, .int .u8 0, .int .u8 0, .int .u8 0, .int .u8 0, .int .u8 0, .int .u8 0, .int .u8 0, .int .u8 0, .int .u8 0, .int .u8 0, .int .u8 0, .int .u8 0, .int .u8 0, .int .u8 0, .int .u8 0, .int .u8 0, .int .u8 0, .int .u8 0, .int .u8 0, .int .u8 0, .int .u8 0, .int .u8 0, .int .u8 0, .int .u8 0, .int .u8 0, .int .u8 0, .int .u8 0, .int .u8 0, .int .u8 0, .int .u8 0, .int .u8 0, .int .u8 0, .int .u8 0, .int .u8 0, .int .u8 0, .int .u8 0, .int .u8 0, .int .u8 0, .int .u8 0, .int .u8 0, .int .u8 0, .int .u8 0, .int .u8 0, .int .u8 0, .int .u8 0, .int .u8 0, .int .u8 0, .int .u8 0, .int .u8 0, .int .u8 0, .int .u8 0, .int .u8 0, .int .u8 0] 71)) (w.heap.size + 1) (List.replicate 64 (.int .u8 0)) ∧ Below w.heap.size w ((w.alloc (.cells #[.int .u8 0, .int .u8 0, .int .u8 0, .int .u8 0, .int .u8 0, .int .u8 0, .int .u8 0, .int .u8 0, .int .u8 0, .int .u8 0, .int .u8 0, .int .u8 0, .int .u8 0, .int .u8 0, .int .u8 0, .int .u8 0, .int .u8 0, .int .u8 0, .int .u8 0, .int .u8 0, .int .u8 0, .int .u8 0, .int .u8 0, .int .u8 0, .int .u8 0, .int .u8 0, .int .u8 0, .int .u8 0, .int .u8 0, .int .u8 0, .int .u8 0, .int .u8 0, .int .u8 0, .int .u8 0, .int .u8 0, .int .u8 0, .int .u8 0, .int .u8 0, .int .u8 0, .int .u8 0, .int .u8 0, .int .u8 0, .int .u8 0, .int .u8 0, .int .u8 0, .int .u8 0, .int .u8 0, .int .u8 0, .int .u8 0, .int .u8 0, .int .u8 0, .int .u8 0, .int .u8 0, .int .u8 0, .int .u8 0, .int .u8 0, .int .u8 0, .int .u8 0, .int .u8 0, .int .u8 0, .int .u8 0, .int .u8 0, .int .u8 0, .int .u8 0] 71)).alloc (.cells #[.int .u8 0, .int .u8 0, .int .u8 0, .int .u8 0, .int .u8 0, .int .u8 0, .int .u8 0, .int .u8 0, .int .u8 0, .int .u8 0, .int .u8 0, .int .u8 0, .int .u8 0, .int .u8 0, .int .u8 0, .int .u8 0, .int .u8 0, .int .u8 0, .int .u8 0, .int .u8 0, .int .u8 0, .int .u8 0, .int .u8 0, .int .u8 0, .int .u8 0, .int .u8 0, .int .u8 0, .int .u8 0, .int .u8 0, .int .u8 0, .int .u8 0, .int .u8 0, .int .u8 0, .int .u8 0, .int .u8 0, .int .u8 0, .int .u8 0, .int .u8 0, .int .u8 0, .int .u8 0, .int .u8 0, .int .u8 0, .int .u8 0, .int .u8 0, .int .u8 0, .int .u8 0, .int .u8 0, .int .u8 0, .int .u8 0, .int .u8 0, .int .u8 0, .int .u8 0, .int .u8 0, .int .u8 0, .int .u8 0, .int .u8 0, .int .u8 0, .int .u8 0, .int .u8 0, .int .u8 0, .int .u8 0, .int .u8 0, .int .u8 0, .int .u8 0] 71)) ∧ w.heap.size + 1 + 1 ≤ ((w.alloc (.cells #[.int .u8 0, .int .u8 0, .int .u8 0, .int .u8 0, .int .u8 0, .int .u8 0, .int .u8 0, .int .u8 0, .int .u8 0, .int .u8 0, .int .u8 0, .int .u8 0, .int .u8 0, .int .u8 0, .int .u8 0, .int .u8 0, .int .u8 0, .int .u8 0, .int .u8 0, .int .u8 0, .int .u8 0, .int .u8 0, .int .u8 0, .int .u8 0, .int .u8 0, .int .u8 0, .int .u8 0, .int .u8 0, .int .u8 0, .int .u8 0, .int .u8 0, .int .u8 0, .int .u8 0, .int .u8 0, .int .u8 0, .int .u8 0, .int .u8 0, .int .u8 0, .int .u8 0, .int .u8 0, .int .u8 0, .int .u8 0, .int .u8 0, .int .u8 0, .int .u8 0, .int .u8 0, .int .u8 0, .int .u8 0, .int .u8 0, .int .u8 0, .int .u8 0, .int .u8 0, .int .u8 0, .int .u8 0, .int .u8 0, .int .u8 0, .int .u8 0, .int .u8 0, .int .u8 0, .int .u8 0, .int .u8 0, .int .u8 0, .int .u8 0, .int .u8 0] 71)).alloc (.cells #[.int .u8 0, .int .u8 0, .int .u8 0, .int .u8 0, .int .u8 0, .int .u8 0, .int .u8 0, .int .u8 0, .int .u8 0, .int .u8 0, .int .u8 0, .int .u8 0, .int .u8 0, .int .u8 0, .int .u8 0, .int .u8 0, .int .u8 0, .int .u8 0, .int .u8 0, .int .u8 0, .int .u8 0, .int .u8 0, .int .u8 0, .int .u8 0, .int .u8 0, .int .u8 0, .int .u8 0, .int .u8 0, .int .u8 0, .int .u8 0, .int .u8 0, .int .u8 0, .int .u8 0, .int .u8 0, .int .u8 0, .int .u8 0, .int .u8 0, .int .u8 0, .int .u8 0, .int .u8 0, .int .u8 0, .int .u8 0, .int .u8 0, .int .u8 0, .int .u8 0, .int .u8 0, .int .u8 0, .int .u8 0, .int .u8 0, .int .u8 0, .int .u8 0, .int .u8 0, .int .u8 0, .int .u8 0, .int .u8 0, .int .u8 0, .int .u8 0, .int .u8 0, .int .u8 0, .int .u8 0, .int .u8 0, .int .u8 0, .int .u8 0, .int .u8 0] 71)).heap.size :=
  ⟨(Blk.new w _ _ _ rfl rfl).alloc _, Blk.new _ _ _ _ rfl (by simp), ((Below.refl _ _).alloc (Nat.le_refl _) _).alloc (by simp) _, by simp⟩

end Go.Proofs.YtgajejomibnghaaDoor
