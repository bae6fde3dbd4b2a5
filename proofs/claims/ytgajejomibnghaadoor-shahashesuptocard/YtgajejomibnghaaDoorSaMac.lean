/-
  A Keyed's methods, sha.Mac.
-/
import Derived.Test.YtgajejomibnghaaDoorSaKey
namespace Go.Proofs.YtgajejomibnghaaDoor
open Go.RowKit Go.IntWalk

attribute [local go_sem ↓] ld_words ld_part ld_sched ld_hash ld_dig ld_arr st_words st_part st_sched st_hash st_dig st_arr ix_words bd_hash bd_keyed bd_dig

/-- Two variables that are stored into. -/
theorem two_at (w V : World) (t1 t2 : TypeId) (b1 b2 : Nat) (Z1 Z2 X Y D : List Value) (hi1 : (Tryd.prog.info? t1).map (·.size) = some X.length) (hi2 : (Tryd.prog.info? t2).map (·.size) = some Y.length) (hX : Z1.length = X.length) (hY : Z2.length = Y.length) (o1 : ∀ v ∈ X, v.oneCell' = true) (o2 : ∀ v ∈ Y, v.oneCell' = true)
    (k1 : Blk t1 V b1 Z1) (k2 : Blk t2 V b2 Z2) (hne : b1 ≠ b2) (g1 : w.heap.size < b1) (g2 : w.heap.size < b2) (kD : Blk t1 V w.heap.size D) (b0 : Below w.heap.size w V) :
    ∃ V1 V2, (stA t1 (.pointer (some ⟨b1, 0, none⟩)) (.agg X.toArray)).run Tryd.prog V = .ok () V1 ∧ (stA t2 (.pointer (some ⟨b2, 0, none⟩)) (.agg Y.toArray)).run Tryd.prog V1 = .ok () V2 ∧
      Hid (Blk t1 V2 b1 X) ∧ Hid (Blk t2 V2 b2 Y) ∧ Hid (Blk t1 V2 w.heap.size D) ∧ Hid (Below w.heap.size w V2) := by
  have b3 := Blk.mid [] _ [] X 0 V (by simpa using k1) rfl hX
  rw [List.nil_append, List.append_nil] at b3
  have g3 := gSets b1 X 0 V
  have b4 := k2.kept g3.1 (fun h => hne (Option.some.inj h).symm)
  have b5 := Blk.mid [] _ [] Y 0 _ (by simpa using b4) rfl hY
  rw [List.nil_append, List.append_nil] at b5
  have g5 := gSets b2 Y 0 (V.setCells b1 0 X)
  exact ⟨_, _, stA_all hi1 k1 hX o1, stA_all hi2 b4 hY o2, b3.kept g5.1 (fun h => hne (Option.some.inj h)), b5, (kD.kept g3.1 (fun h => by have := Option.some.inj h; omega)).kept g5.1 (fun h => by have := Option.some.inj h; omega), below_sets (below_sets b0 (by omega) b0.size _ _) (by omega) (by rw [g3.2]; exact b0.size) _ _⟩

/-- The digest of a Keyed's first Hash, called in W, and the two variables that are laid then. -/
theorem sum_part (g : Nat) (C L : List Value) (ys : List Int) (w W : World) (F : World → World) (p3 p4 : World → Nat) (hW : Hs 75 W g [] C ys) (hT : Tabs W) (hb : ys.length ≤ 576460752303423488) (hL : L.length = 74) (ho : ∀ v ∈ L, v.oneCell' = true)
    (hF : ∀ w2, Below W.heap.size W w2 → Blk 26 (F w2) (p3 w2) (List.replicate 32 (.int .u8 0)) ∧ Blk 73 (F w2) (p4 w2) hZero ∧ p3 w2 ≠ p4 w2 ∧ w.heap.size < p3 w2 ∧ w.heap.size < p4 w2 ∧ Blk 26 (F w2) w.heap.size (List.replicate 32 (.int .u8 0)) ∧ Below w.heap.size w (F w2)) :
    Calls Tryd.prog 29 #[.pointer (some ⟨g, 0, none⟩)] W fun e w2 => e = .returned (.agg ((dig ys).map (Value.int .u8)).toArray) ∧ ∃ V1 V2, (stA 26 (.pointer (some ⟨p3 w2, 0, none⟩)) (.agg ((dig ys).map (Value.int .u8)).toArray)).run Tryd.prog (F w2) = .ok () V1 ∧ (stA 73 (.pointer (some ⟨p4 w2, 0, none⟩)) (.agg L.toArray)).run Tryd.prog V1 = .ok () V2 ∧
      Hid (Blk 26 V2 (p3 w2) ((dig ys).map (Value.int .u8))) ∧ Hid (Blk 73 V2 (p4 w2) L) ∧ Hid (Blk 26 V2 w.heap.size (List.replicate 32 (.int .u8 0))) ∧ Hid (Below w.heap.size w V2) ∧ Hid (Below W.heap.size W w2) := by
  refine (digest_any _ g 0 [] C ys W hW rfl hT hb).mono ?_
  rintro e w2 ⟨he, hb2⟩
  obtain ⟨k1, k2, k3, k4, k5, k6, k7⟩ := hF w2 hb2
  obtain ⟨V1, V2, h1, h2, h3, h4, h5, h6⟩ := two_at w (F w2) 26 73 (p3 w2) (p4 w2) _ _ ((dig ys).map (Value.int .u8)) L _ (by rw [List.length_map, dig_len]; exact info_dig) (by rw [hL]; exact info_hash) (by rw [List.length_map, dig_len]; rfl) (by rw [hL]; rfl) (ints_one _ _) ho k1 k2 k3 k4 k5 k6 k7
  exact ⟨he, V1, V2, h1, h2, h3, h4, h5, h6, hb2⟩

set_option maxRecDepth 100000 in
set_option maxHeartbeats 2000000 in
theorem kmade_yes (g : Nat) (ys zs : List Int) (w : World) (hK : Ks w g ys zs) :
    Calls Tryd.prog 35 #[.pointer (some ⟨g, 0, none⟩)] w fun e w' => e = .returned (.bool true) ∧ w' = w := by
  obtain ⟨C, h1, _⟩ := hK.first
  obtain ⟨A, hA, h2, _⟩ := hK.second
  have H1 := hide (made_yes _ g 0 [] C ys w h1 rfl)
  have H2 := hide (made_yes _ g 74 A [] zs w h2 hA)
  clear h1 h2 hK
  go_enter Tryd.func35, Tryd.ntmps35
  go_wp2_with fail
  refine H1.out.mono ?_
  rintro e w1 ⟨rfl, hw⟩
  subst hw
  go_wp2_with fail
  refine H2.out.mono ?_
  rintro e w1 ⟨rfl, hw⟩
  subst hw
  go_wp2
  go_ret
  exact ⟨rfl, rfl⟩

set_option maxRecDepth 100000 in
set_option maxHeartbeats 2000000 in
theorem kwrite_yes (g : Nat) (ys zs : List Int) (po : Option Addr) (pn pc : Nat) (ls : List (List Int)) (w : World) (hK : Ks w g ys zs) (hP : Pcs w g po pn ls) (hT : Tabs w) (h2 : 2 ≤ g) (hb : ys.length + ls.flatten.length ≤ 1152921504606846976) (hpn : pn ≤ 140737488355328) :
    Calls Tryd.prog 21 #[.pointer (some ⟨g, 0, none⟩), .slice po pn pc] w fun e w' => e = .returned (.int .i64 0) ∧ Ks w' g (ys ++ ls.flatten) zs ∧ w.grownBy w' (some g) := by
  have HM := hide (kmade_yes g ys zs w hK)
  obtain ⟨C, h1, hback⟩ := hK.first
  have H := hide (take_any _ g 0 [] C ys po pn pc ls w h1 rfl hP hT h2 hb hpn)
  have HB := hide hback
  clear h1 hback hK hP hT hb hpn
  go_enter Tryd.func21, Tryd.ntmps21
  go_wp2_with fail
  refine HM.out.mono ?_
  rintro e w1 ⟨rfl, hw⟩
  subst hw
  go_wp2_with fail
  refine H.out.mono ?_
  rintro e w2 ⟨rfl, h1, h2⟩
  have h3 := HB.out _ _ h1
  clear h1
  go_wp2
  go_ret
  exact ⟨rfl, h3, h2⟩

end Go.Proofs.YtgajejomibnghaaDoor
