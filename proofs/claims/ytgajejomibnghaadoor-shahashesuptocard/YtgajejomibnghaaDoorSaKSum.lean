/-
  (*sha.Keyed).Sum: the keyed digest so far.
-/
import Derived.Test.YtgajejomibnghaaDoorSaMac
namespace Go.Proofs.YtgajejomibnghaaDoor
open Go.RowKit Go.IntWalk

attribute [local go_sem ↓] ld_words ld_part ld_sched ld_hash ld_dig ld_arr st_words st_part st_sched st_hash st_dig st_arr ix_words bd_hash bd_keyed bd_dig

/-- What is known of a world in which the digest is called. -/
structure KW (w W : World) (g : Nat) (C LL : List Value) (ys : List Int) : Prop where
  hs : Hs 75 W g [] C ys
  bk : Blk 75 W g LL
  d : Blk 26 W w.heap.size (List.replicate 32 (.int .u8 0))
  bl : Below w.heap.size w W
  sz : w.heap.size + 1 ≤ W.heap.size

theorem KW.alloc {w W : World} {g : Nat} {C LL : List Value} {ys : List Int} (h : KW w W g C LL ys) (ob : Obj) : KW w (W.alloc ob) g C LL ys :=
  ⟨h.hs.alloc ob, h.bk.alloc ob, h.d.alloc ob, h.bl.alloc h.bl.size ob, by have := h.sz; simp; omega⟩
theorem KW.drew {w W : World} {g : Nat} {C LL : List Value} {ys : List Int} (h : KW w W g C LL ys) : KW w W.drew g C LL ys :=
  ⟨h.hs.heap rfl, h.bk.heap rfl, h.d.heap rfl, h.bl.drew, h.sz⟩

theorem kw_new (w : World) (g : Nat) (C LL : List Value) (ys : List Int) (h1 : Hs 75 w g [] C ys) (h2 : Blk 75 w g LL) : KW w (w.alloc (.cells #[.int .u8 0, .int .u8 0, .int .u8 0, .int .u8 0, .int .u8 0, .int .u8 0, .int .u8 0, .int .u8 0, .int .u8 0, .int .u8 0, .int .u8 0, .int .u8 0, .int .u8 0, .int .u8 0, .int .u8 0, .int .u8 0, .int .u8 0, .int .u8 0, .int .u8 0, .int .u8 0, .int .u8 0, .int .u8 0, .int .u8 0, .int .u8 0, .int .u8 0, .int .u8 0, .int .u8 0, .int .u8 0, .int .u8 0, .int .u8 0, .int .u8 0, .int .u8 0] 26)) g C LL ys :=
  ⟨h1.alloc _, h2.alloc _, Blk.new w _ _ _ rfl rfl, (Below.refl _ _).alloc (Nat.le_refl _) _, by simp⟩

/-- The two variables of a Keyed's Sum, stored into. -/
def KP (w V : World) (g b1 b2 : Nat) (LL L : List Value) (ys : List Int) : Prop :=
  V.there b1 0 ((dig ys).map (Value.int .u8)).length ∧ (stA 73 (.pointer (some ⟨b2, 0, none⟩)) (.agg L.toArray)).run Tryd.prog (V.setCells b1 0 ((dig ys).map (Value.int .u8))) = .ok () ((V.setCells b1 0 ((dig ys).map (Value.int .u8))).setCells b2 0 L) ∧ Blk 75 (V.setCells b1 0 ((dig ys).map (Value.int .u8))) g LL ∧ Blk 75 ((V.setCells b1 0 ((dig ys).map (Value.int .u8))).setCells b2 0 L) g LL ∧
    Hid (Blk 26 ((V.setCells b1 0 ((dig ys).map (Value.int .u8))).setCells b2 0 L) b1 ((dig ys).map (Value.int .u8))) ∧ Hid (Blk 73 ((V.setCells b1 0 ((dig ys).map (Value.int .u8))).setCells b2 0 L) b2 L) ∧ Hid (Blk 26 ((V.setCells b1 0 ((dig ys).map (Value.int .u8))).setCells b2 0 L) w.heap.size (List.replicate 32 (.int .u8 0))) ∧ Hid (Below w.heap.size w ((V.setCells b1 0 ((dig ys).map (Value.int .u8))).setCells b2 0 L)) ∧ Hid (b1 ≠ b2 ∧ w.heap.size < b1 ∧ w.heap.size < b2)

theorem kpair (w V : World) (g b1 b2 : Nat) (C LL L : List Value) (ys : List Int) (h : KW w V g C LL ys) (hL : L.length = 74) (ho : ∀ v ∈ L, v.oneCell' = true) (hg : g < w.heap.size)
    (k1 : Blk 26 V b1 (List.replicate 32 (.int .u8 0))) (k2 : Blk 73 V b2 hZero) (hne : b1 ≠ b2) (g1 : w.heap.size < b1) (g2 : w.heap.size < b2) : KP w V g b1 b2 LL L ys := by
  have hX : (List.replicate 32 (Value.int .u8 0)).length = ((dig ys).map (Value.int .u8)).length := by rw [List.length_map, dig_len]; rfl
  have hY : hZero.length = L.length := by rw [hL]; rfl
  have b3 := Blk.mid [] _ [] ((dig ys).map (Value.int .u8)) 0 V (by simpa using k1) rfl hX
  rw [List.nil_append, List.append_nil] at b3
  have g3 := gSets b1 ((dig ys).map (Value.int .u8)) 0 V
  have b4 := k2.kept g3.1 (fun h => hne (Option.some.inj h).symm)
  have b5 := Blk.mid [] _ [] L 0 _ (by simpa using b4) rfl hY
  rw [List.nil_append, List.append_nil] at b5
  have g5 := gSets b2 L 0 (V.setCells b1 0 ((dig ys).map (Value.int .u8)))
  have e1 := h.bk.kept g3.1 (fun h => by have := Option.some.inj h; omega)
  exact ⟨k1.there 0 _ (by omega), stA_all (by rw [hL]; exact info_hash) b4 hY ho, e1, e1.kept g5.1 (fun h => by have := Option.some.inj h; omega), b3.kept g5.1 (fun h => hne (Option.some.inj h)), b5, (h.d.kept g3.1 (fun h => by have := Option.some.inj h; omega)).kept g5.1 (fun h => by have := Option.some.inj h; omega), below_sets (below_sets h.bl (by omega) h.bl.size _ _) (by omega) (by rw [g3.2]; exact h.bl.size) _ _, ⟨hne, g1, g2⟩⟩

theorem KW.below {w W w2 : World} {g : Nat} {C LL : List Value} {ys : List Int} (h : KW w W g C LL ys) (hb : Below W.heap.size W w2) : KW w w2 g C LL ys :=
  ⟨h.hs.below hb, h.bk.below hb, h.d.below hb, h.bl.trans (hb.mono h.bl.size), Nat.le_trans h.sz hb.size⟩

theorem kdig (g : Nat) (C LL : List Value) (ys : List Int) (w W : World) (h : KW w W g C LL ys) (hT : Tabs w) (hb : ys.length ≤ 576460752303423488) :
    Calls Tryd.prog 29 #[.pointer (some ⟨g, 0, none⟩)] W fun e w2 => e = .returned (.agg ((dig ys).map (Value.int .u8)).toArray) ∧ Below W.heap.size W w2 ∧ KW w w2 g C LL ys := by
  refine (digest_any _ g 0 [] C ys W h.hs rfl (hT.below h.bl hT.lt) hb).mono ?_
  rintro e w2 ⟨he, hb2⟩
  exact ⟨he, hb2, h.below hb2⟩

theorem kdig0 (g : Nat) (C LL L : List Value) (ys : List Int) (w : World) (h1 : Hs 75 w g [] C ys) (h2 : Blk 75 w g LL) (hL : L.length = 74) (ho : ∀ v ∈ L, v.oneCell' = true) (hT : Tabs w) (hb : ys.length ≤ 576460752303423488) :
    Calls Tryd.prog 29 #[.pointer (some ⟨g, 0, none⟩)] (w.alloc (.cells #[.int .u8 0, .int .u8 0, .int .u8 0, .int .u8 0, .int .u8 0, .int .u8 0, .int .u8 0, .int .u8 0, .int .u8 0, .int .u8 0, .int .u8 0, .int .u8 0, .int .u8 0, .int .u8 0, .int .u8 0, .int .u8 0, .int .u8 0, .int .u8 0, .int .u8 0, .int .u8 0, .int .u8 0, .int .u8 0, .int .u8 0, .int .u8 0, .int .u8 0, .int .u8 0, .int .u8 0, .int .u8 0, .int .u8 0, .int .u8 0, .int .u8 0, .int .u8 0] 26)).drew fun e w2 => e = .returned (.agg ((dig ys).map (Value.int .u8)).toArray) ∧ Blk 75 w2 g LL ∧ KP w ((w2.alloc (.cells #[.int .u8 0, .int .u8 0, .int .u8 0, .int .u8 0, .int .u8 0, .int .u8 0, .int .u8 0, .int .u8 0, .int .u8 0, .int .u8 0, .int .u8 0, .int .u8 0, .int .u8 0, .int .u8 0, .int .u8 0, .int .u8 0, .int .u8 0, .int .u8 0, .int .u8 0, .int .u8 0, .int .u8 0, .int .u8 0, .int .u8 0, .int .u8 0, .int .u8 0, .int .u8 0, .int .u8 0, .int .u8 0, .int .u8 0, .int .u8 0, .int .u8 0, .int .u8 0] 26)).alloc (.cells hZero.toArray 73)) g w2.heap.size (w2.heap.size + 1) LL L ys ∧ KP w ((w2.alloc (.cells hZero.toArray 73)).alloc (.cells #[.int .u8 0, .int .u8 0, .int .u8 0, .int .u8 0, .int .u8 0, .int .u8 0, .int .u8 0, .int .u8 0, .int .u8 0, .int .u8 0, .int .u8 0, .int .u8 0, .int .u8 0, .int .u8 0, .int .u8 0, .int .u8 0, .int .u8 0, .int .u8 0, .int .u8 0, .int .u8 0, .int .u8 0, .int .u8 0, .int .u8 0, .int .u8 0, .int .u8 0, .int .u8 0, .int .u8 0, .int .u8 0, .int .u8 0, .int .u8 0, .int .u8 0, .int .u8 0] 26)) g (w2.heap.size + 1) w2.heap.size LL L ys := by
  refine (kdig g C LL ys w _ (kw_new w g C LL ys h1 h2).drew hT hb).mono ?_
  rintro e w2 ⟨he, hb2, hk⟩
  have hlt := h1.lt
  have hsz := hk.sz
  refine ⟨he, hk.bk, kpair w _ g _ _ C LL L ys ((hk.alloc _).alloc _) hL ho hlt ((Blk.new w2 _ _ _ rfl rfl).alloc _) (Blk.new _ _ _ _ rfl (by simp)) (by omega) (by omega) (by omega), kpair w _ g _ _ C LL L ys ((hk.alloc _).alloc _) hL ho hlt (Blk.new _ _ _ _ rfl (by simp)) ((Blk.new w2 _ _ _ rfl rfl).alloc _) (by omega) (by omega) (by omega)⟩

theorem kdig1 (g : Nat) (C LL L : List Value) (ys : List Int) (w : World) (h1 : Hs 75 w g [] C ys) (h2 : Blk 75 w g LL) (hL : L.length = 74) (ho : ∀ v ∈ L, v.oneCell' = true) (hT : Tabs w) (hb : ys.length ≤ 576460752303423488) :
    Calls Tryd.prog 29 #[.pointer (some ⟨g, 0, none⟩)] ((w.alloc (.cells #[.int .u8 0, .int .u8 0, .int .u8 0, .int .u8 0, .int .u8 0, .int .u8 0, .int .u8 0, .int .u8 0, .int .u8 0, .int .u8 0, .int .u8 0, .int .u8 0, .int .u8 0, .int .u8 0, .int .u8 0, .int .u8 0, .int .u8 0, .int .u8 0, .int .u8 0, .int .u8 0, .int .u8 0, .int .u8 0, .int .u8 0, .int .u8 0, .int .u8 0, .int .u8 0, .int .u8 0, .int .u8 0, .int .u8 0, .int .u8 0, .int .u8 0, .int .u8 0] 26)).alloc (.cells #[.int .u8 0, .int .u8 0, .int .u8 0, .int .u8 0, .int .u8 0, .int .u8 0, .int .u8 0, .int .u8 0, .int .u8 0, .int .u8 0, .int .u8 0, .int .u8 0, .int .u8 0, .int .u8 0, .int .u8 0, .int .u8 0, .int .u8 0, .int .u8 0, .int .u8 0, .int .u8 0, .int .u8 0, .int .u8 0, .int .u8 0, .int .u8 0, .int .u8 0, .int .u8 0, .int .u8 0, .int .u8 0, .int .u8 0, .int .u8 0, .int .u8 0, .int .u8 0] 26)).drew fun e w2 => e = .returned (.agg ((dig ys).map (Value.int .u8)).toArray) ∧ Blk 75 w2 g LL ∧ KP w (w2.alloc (.cells hZero.toArray 73)) g (w.heap.size + 1) w2.heap.size LL L ys := by
  refine (kdig g C LL ys w _ ((kw_new w g C LL ys h1 h2).alloc _).drew hT hb).mono ?_
  rintro e w2 ⟨he, hb2, hk⟩
  have hlt := h1.lt
  have hsz := hb2.size
  simp at hsz
  have hz : Blk 26 w2 (w.heap.size + 1) (List.replicate 32 (.int .u8 0)) := Blk.below (Blk.heap (w' := ((w.alloc (.cells #[.int .u8 0, .int .u8 0, .int .u8 0, .int .u8 0, .int .u8 0, .int .u8 0, .int .u8 0, .int .u8 0, .int .u8 0, .int .u8 0, .int .u8 0, .int .u8 0, .int .u8 0, .int .u8 0, .int .u8 0, .int .u8 0, .int .u8 0, .int .u8 0, .int .u8 0, .int .u8 0, .int .u8 0, .int .u8 0, .int .u8 0, .int .u8 0, .int .u8 0, .int .u8 0, .int .u8 0, .int .u8 0, .int .u8 0, .int .u8 0, .int .u8 0, .int .u8 0] 26)).alloc (.cells #[.int .u8 0, .int .u8 0, .int .u8 0, .int .u8 0, .int .u8 0, .int .u8 0, .int .u8 0, .int .u8 0, .int .u8 0, .int .u8 0, .int .u8 0, .int .u8 0, .int .u8 0, .int .u8 0, .int .u8 0, .int .u8 0, .int .u8 0, .int .u8 0, .int .u8 0, .int .u8 0, .int .u8 0, .int .u8 0, .int .u8 0, .int .u8 0, .int .u8 0, .int .u8 0, .int .u8 0, .int .u8 0, .int .u8 0, .int .u8 0, .int .u8 0, .int .u8 0] 26)).drew) (Blk.new _ _ _ _ rfl (by simp)) rfl) hb2
  exact ⟨he, hk.bk, kpair w _ g _ _ C LL L ys (hk.alloc _) hL ho hlt (hz.alloc _) (Blk.new _ _ _ _ rfl rfl) (by omega) (by omega) (by omega)⟩

theorem kdig2 (g : Nat) (C LL L : List Value) (ys : List Int) (w : World) (h1 : Hs 75 w g [] C ys) (h2 : Blk 75 w g LL) (hL : L.length = 74) (ho : ∀ v ∈ L, v.oneCell' = true) (hT : Tabs w) (hb : ys.length ≤ 576460752303423488) :
    Calls Tryd.prog 29 #[.pointer (some ⟨g, 0, none⟩)] ((w.alloc (.cells #[.int .u8 0, .int .u8 0, .int .u8 0, .int .u8 0, .int .u8 0, .int .u8 0, .int .u8 0, .int .u8 0, .int .u8 0, .int .u8 0, .int .u8 0, .int .u8 0, .int .u8 0, .int .u8 0, .int .u8 0, .int .u8 0, .int .u8 0, .int .u8 0, .int .u8 0, .int .u8 0, .int .u8 0, .int .u8 0, .int .u8 0, .int .u8 0, .int .u8 0, .int .u8 0, .int .u8 0, .int .u8 0, .int .u8 0, .int .u8 0, .int .u8 0, .int .u8 0] 26)).alloc (.cells hZero.toArray 73)).drew fun e w2 => e = .returned (.agg ((dig ys).map (Value.int .u8)).toArray) ∧ Blk 75 w2 g LL ∧ KP w (w2.alloc (.cells #[.int .u8 0, .int .u8 0, .int .u8 0, .int .u8 0, .int .u8 0, .int .u8 0, .int .u8 0, .int .u8 0, .int .u8 0, .int .u8 0, .int .u8 0, .int .u8 0, .int .u8 0, .int .u8 0, .int .u8 0, .int .u8 0, .int .u8 0, .int .u8 0, .int .u8 0, .int .u8 0, .int .u8 0, .int .u8 0, .int .u8 0, .int .u8 0, .int .u8 0, .int .u8 0, .int .u8 0, .int .u8 0, .int .u8 0, .int .u8 0, .int .u8 0, .int .u8 0] 26)) g w2.heap.size (w.heap.size + 1) LL L ys := by
  refine (kdig g C LL ys w _ ((kw_new w g C LL ys h1 h2).alloc _).drew hT hb).mono ?_
  rintro e w2 ⟨he, hb2, hk⟩
  have hlt := h1.lt
  have hsz := hb2.size
  simp at hsz
  have hz : Blk 73 w2 (w.heap.size + 1) hZero := Blk.below (Blk.heap (w' := ((w.alloc (.cells #[.int .u8 0, .int .u8 0, .int .u8 0, .int .u8 0, .int .u8 0, .int .u8 0, .int .u8 0, .int .u8 0, .int .u8 0, .int .u8 0, .int .u8 0, .int .u8 0, .int .u8 0, .int .u8 0, .int .u8 0, .int .u8 0, .int .u8 0, .int .u8 0, .int .u8 0, .int .u8 0, .int .u8 0, .int .u8 0, .int .u8 0, .int .u8 0, .int .u8 0, .int .u8 0, .int .u8 0, .int .u8 0, .int .u8 0, .int .u8 0, .int .u8 0, .int .u8 0] 26)).alloc (.cells hZero.toArray 73)).drew) (Blk.new _ _ _ _ rfl (by simp)) rfl) hb2
  exact ⟨he, hk.bk, kpair w _ g _ _ C LL L ys (hk.alloc _) hL ho hlt (Blk.new _ _ _ _ rfl rfl) (hz.alloc _) (by omega) (by omega) (by omega)⟩

theorem kdig3 (g : Nat) (C LL L : List Value) (ys : List Int) (w : World) (h1 : Hs 75 w g [] C ys) (h2 : Blk 75 w g LL) (hL : L.length = 74) (ho : ∀ v ∈ L, v.oneCell' = true) (hT : Tabs w) (hb : ys.length ≤ 576460752303423488) :
    Calls Tryd.prog 29 #[.pointer (some ⟨g, 0, none⟩)] (((w.alloc (.cells #[.int .u8 0, .int .u8 0, .int .u8 0, .int .u8 0, .int .u8 0, .int .u8 0, .int .u8 0, .int .u8 0, .int .u8 0, .int .u8 0, .int .u8 0, .int .u8 0, .int .u8 0, .int .u8 0, .int .u8 0, .int .u8 0, .int .u8 0, .int .u8 0, .int .u8 0, .int .u8 0, .int .u8 0, .int .u8 0, .int .u8 0, .int .u8 0, .int .u8 0, .int .u8 0, .int .u8 0, .int .u8 0, .int .u8 0, .int .u8 0, .int .u8 0, .int .u8 0] 26)).alloc (.cells #[.int .u8 0, .int .u8 0, .int .u8 0, .int .u8 0, .int .u8 0, .int .u8 0, .int .u8 0, .int .u8 0, .int .u8 0, .int .u8 0, .int .u8 0, .int .u8 0, .int .u8 0, .int .u8 0, .int .u8 0, .int .u8 0, .int .u8 0, .int .u8 0, .int .u8 0, .int .u8 0, .int .u8 0, .int .u8 0, .int .u8 0, .int .u8 0, .int .u8 0, .int .u8 0, .int .u8 0, .int .u8 0, .int .u8 0, .int .u8 0, .int .u8 0, .int .u8 0] 26)).alloc (.cells hZero.toArray 73)).drew fun e w2 => e = .returned (.agg ((dig ys).map (Value.int .u8)).toArray) ∧ Blk 75 w2 g LL ∧ KP w w2 g (w.heap.size + 1) (w.heap.size + 1 + 1) LL L ys := by
  refine (kdig g C LL ys w _ (((kw_new w g C LL ys h1 h2).alloc _).alloc _).drew hT hb).mono ?_
  rintro e w2 ⟨he, hb2, hk⟩
  have hlt := h1.lt
  have hz : Blk 26 w2 (w.heap.size + 1) (List.replicate 32 (.int .u8 0)) := Blk.below (Blk.heap (w' := (((w.alloc (.cells #[.int .u8 0, .int .u8 0, .int .u8 0, .int .u8 0, .int .u8 0, .int .u8 0, .int .u8 0, .int .u8 0, .int .u8 0, .int .u8 0, .int .u8 0, .int .u8 0, .int .u8 0, .int .u8 0, .int .u8 0, .int .u8 0, .int .u8 0, .int .u8 0, .int .u8 0, .int .u8 0, .int .u8 0, .int .u8 0, .int .u8 0, .int .u8 0, .int .u8 0, .int .u8 0, .int .u8 0, .int .u8 0, .int .u8 0, .int .u8 0, .int .u8 0, .int .u8 0] 26)).alloc (.cells #[.int .u8 0, .int .u8 0, .int .u8 0, .int .u8 0, .int .u8 0, .int .u8 0, .int .u8 0, .int .u8 0, .int .u8 0, .int .u8 0, .int .u8 0, .int .u8 0, .int .u8 0, .int .u8 0, .int .u8 0, .int .u8 0, .int .u8 0, .int .u8 0, .int .u8 0, .int .u8 0, .int .u8 0, .int .u8 0, .int .u8 0, .int .u8 0, .int .u8 0, .int .u8 0, .int .u8 0, .int .u8 0, .int .u8 0, .int .u8 0, .int .u8 0, .int .u8 0] 26)).alloc (.cells hZero.toArray 73)).drew) ((Blk.new _ _ _ _ rfl (by simp)).alloc _) rfl) hb2
  have hy : Blk 73 w2 (w.heap.size + 1 + 1) hZero := Blk.below (Blk.heap (w' := (((w.alloc (.cells #[.int .u8 0, .int .u8 0, .int .u8 0, .int .u8 0, .int .u8 0, .int .u8 0, .int .u8 0, .int .u8 0, .int .u8 0, .int .u8 0, .int .u8 0, .int .u8 0, .int .u8 0, .int .u8 0, .int .u8 0, .int .u8 0, .int .u8 0, .int .u8 0, .int .u8 0, .int .u8 0, .int .u8 0, .int .u8 0, .int .u8 0, .int .u8 0, .int .u8 0, .int .u8 0, .int .u8 0, .int .u8 0, .int .u8 0, .int .u8 0, .int .u8 0, .int .u8 0] 26)).alloc (.cells #[.int .u8 0, .int .u8 0, .int .u8 0, .int .u8 0, .int .u8 0, .int .u8 0, .int .u8 0, .int .u8 0, .int .u8 0, .int .u8 0, .int .u8 0, .int .u8 0, .int .u8 0, .int .u8 0, .int .u8 0, .int .u8 0, .int .u8 0, .int .u8 0, .int .u8 0, .int .u8 0, .int .u8 0, .int .u8 0, .int .u8 0, .int .u8 0, .int .u8 0, .int .u8 0, .int .u8 0, .int .u8 0, .int .u8 0, .int .u8 0, .int .u8 0, .int .u8 0] 26)).alloc (.cells hZero.toArray 73)).drew) (Blk.new _ _ _ _ rfl (by simp)) rfl) hb2
  exact ⟨he, hk.bk, kpair w _ g _ _ C LL L ys hk hL ho hlt hz hy (by omega) (by omega) (by omega)⟩

theorem kdig4 (g : Nat) (C LL L : List Value) (ys : List Int) (w : World) (h1 : Hs 75 w g [] C ys) (h2 : Blk 75 w g LL) (hL : L.length = 74) (ho : ∀ v ∈ L, v.oneCell' = true) (hT : Tabs w) (hb : ys.length ≤ 576460752303423488) :
    Calls Tryd.prog 29 #[.pointer (some ⟨g, 0, none⟩)] (((w.alloc (.cells #[.int .u8 0, .int .u8 0, .int .u8 0, .int .u8 0, .int .u8 0, .int .u8 0, .int .u8 0, .int .u8 0, .int .u8 0, .int .u8 0, .int .u8 0, .int .u8 0, .int .u8 0, .int .u8 0, .int .u8 0, .int .u8 0, .int .u8 0, .int .u8 0, .int .u8 0, .int .u8 0, .int .u8 0, .int .u8 0, .int .u8 0, .int .u8 0, .int .u8 0, .int .u8 0, .int .u8 0, .int .u8 0, .int .u8 0, .int .u8 0, .int .u8 0, .int .u8 0] 26)).alloc (.cells hZero.toArray 73)).alloc (.cells #[.int .u8 0, .int .u8 0, .int .u8 0, .int .u8 0, .int .u8 0, .int .u8 0, .int .u8 0, .int .u8 0, .int .u8 0, .int .u8 0, .int .u8 0, .int .u8 0, .int .u8 0, .int .u8 0, .int .u8 0, .int .u8 0, .int .u8 0, .int .u8 0, .int .u8 0, .int .u8 0, .int .u8 0, .int .u8 0, .int .u8 0, .int .u8 0, .int .u8 0, .int .u8 0, .int .u8 0, .int .u8 0, .int .u8 0, .int .u8 0, .int .u8 0, .int .u8 0] 26)).drew fun e w2 => e = .returned (.agg ((dig ys).map (Value.int .u8)).toArray) ∧ Blk 75 w2 g LL ∧ KP w w2 g (w.heap.size + 1 + 1) (w.heap.size + 1) LL L ys := by
  refine (kdig g C LL ys w _ (((kw_new w g C LL ys h1 h2).alloc _).alloc _).drew hT hb).mono ?_
  rintro e w2 ⟨he, hb2, hk⟩
  have hlt := h1.lt
  have hy : Blk 73 w2 (w.heap.size + 1) hZero := Blk.below (Blk.heap (w' := (((w.alloc (.cells #[.int .u8 0, .int .u8 0, .int .u8 0, .int .u8 0, .int .u8 0, .int .u8 0, .int .u8 0, .int .u8 0, .int .u8 0, .int .u8 0, .int .u8 0, .int .u8 0, .int .u8 0, .int .u8 0, .int .u8 0, .int .u8 0, .int .u8 0, .int .u8 0, .int .u8 0, .int .u8 0, .int .u8 0, .int .u8 0, .int .u8 0, .int .u8 0, .int .u8 0, .int .u8 0, .int .u8 0, .int .u8 0, .int .u8 0, .int .u8 0, .int .u8 0, .int .u8 0] 26)).alloc (.cells hZero.toArray 73)).alloc (.cells #[.int .u8 0, .int .u8 0, .int .u8 0, .int .u8 0, .int .u8 0, .int .u8 0, .int .u8 0, .int .u8 0, .int .u8 0, .int .u8 0, .int .u8 0, .int .u8 0, .int .u8 0, .int .u8 0, .int .u8 0, .int .u8 0, .int .u8 0, .int .u8 0, .int .u8 0, .int .u8 0, .int .u8 0, .int .u8 0, .int .u8 0, .int .u8 0, .int .u8 0, .int .u8 0, .int .u8 0, .int .u8 0, .int .u8 0, .int .u8 0, .int .u8 0, .int .u8 0] 26)).drew) ((Blk.new _ _ _ _ rfl (by simp)).alloc _) rfl) hb2
  have hz : Blk 26 w2 (w.heap.size + 1 + 1) (List.replicate 32 (.int .u8 0)) := Blk.below (Blk.heap (w' := (((w.alloc (.cells #[.int .u8 0, .int .u8 0, .int .u8 0, .int .u8 0, .int .u8 0, .int .u8 0, .int .u8 0, .int .u8 0, .int .u8 0, .int .u8 0, .int .u8 0, .int .u8 0, .int .u8 0, .int .u8 0, .int .u8 0, .int .u8 0, .int .u8 0, .int .u8 0, .int .u8 0, .int .u8 0, .int .u8 0, .int .u8 0, .int .u8 0, .int .u8 0, .int .u8 0, .int .u8 0, .int .u8 0, .int .u8 0, .int .u8 0, .int .u8 0, .int .u8 0, .int .u8 0] 26)).alloc (.cells hZero.toArray 73)).alloc (.cells #[.int .u8 0, .int .u8 0, .int .u8 0, .int .u8 0, .int .u8 0, .int .u8 0, .int .u8 0, .int .u8 0, .int .u8 0, .int .u8 0, .int .u8 0, .int .u8 0, .int .u8 0, .int .u8 0, .int .u8 0, .int .u8 0, .int .u8 0, .int .u8 0, .int .u8 0, .int .u8 0, .int .u8 0, .int .u8 0, .int .u8 0, .int .u8 0, .int .u8 0, .int .u8 0, .int .u8 0, .int .u8 0, .int .u8 0, .int .u8 0, .int .u8 0, .int .u8 0] 26)).drew) (Blk.new _ _ _ _ rfl (by simp)) rfl) hb2
  exact ⟨he, hk.bk, kpair w _ g _ _ C LL L ys hk hL ho hlt hz hy (by omega) (by omega) (by omega)⟩


set_option maxRecDepth 100000 in
set_option maxHeartbeats 4000000 in
theorem ksum_yes (g : Nat) (ys zs : List Int) (w : World) (hK : Ks w g ys zs) (hT : Tabs w) (hb : ys.length ≤ 576460752303423488) (hb2 : zs.length ≤ 1000) :
    Calls Tryd.prog 20 #[.pointer (some ⟨g, 0, none⟩)] w fun e w' => e = .returned (.agg ((dig (zs ++ dig ys)).map (Value.int .u8)).toArray) ∧ Below w.heap.size w w' := by
  have HKM := hide (kmade_yes g ys zs _ (hK.alloc (.cells #[.int .u8 0, .int .u8 0, .int .u8 0, .int .u8 0, .int .u8 0, .int .u8 0, .int .u8 0, .int .u8 0, .int .u8 0, .int .u8 0, .int .u8 0, .int .u8 0, .int .u8 0, .int .u8 0, .int .u8 0, .int .u8 0, .int .u8 0, .int .u8 0, .int .u8 0, .int .u8 0, .int .u8 0, .int .u8 0, .int .u8 0, .int .u8 0, .int .u8 0, .int .u8 0, .int .u8 0, .int .u8 0, .int .u8 0, .int .u8 0, .int .u8 0, .int .u8 0] 26)))
  have HT := hide hT
  have HLt := hide hT.lt
  have HB2 := hide hb2
  have hz := zero_hash
  have hsl := slice_all32
  obtain ⟨C, h1, _⟩ := hK.first
  obtain ⟨p1, p2, hBk, hp1, hp2⟩ := hK
  have hhl : (hV (st zs) p2 zs.length).length = 74 := hV_len _ _ _ (st_len _) hp2.1
  have hone := hV_one (st zs) p2 zs.length
  have HS : Hid (∀ W k, Blk 73 W k (hV (st zs) p2 zs.length) → Hs 73 W k [] [] zs) := fun W k h => ⟨p2, by simpa using h, hp2⟩
  obtain ⟨L, hL⟩ : ∃ L, hV (st zs) p2 zs.length = L := ⟨_, rfl⟩
  rw [hL] at hBk hhl hone HS
  have hA : (hV (st ys) p1 ys.length).length = 74 := hV_len _ _ _ (st_len _) hp1.1
  obtain ⟨LL, hLL⟩ : ∃ LL, hV (st ys) p1 ys.length ++ L = LL := ⟨_, rfl⟩
  have hld : ∀ W : World, Blk 75 W g LL → (ldA 73 (.pointer (some ⟨g, 74, none⟩))).run Tryd.prog W = .ok (.agg L.toArray) W := by
    intro W hW
    rw [← hLL] at hW
    exact ldA_mid (C := []) Tryd.underlying73 rfl (by rw [hhl]; exact info_hash) (by simpa using hW) hA
  rw [hLL] at hBk
  have HD0 := hide (kdig0 g C LL L ys w h1 hBk hhl hone hT hb)
  have HD1 := hide (kdig1 g C LL L ys w h1 hBk hhl hone hT hb)
  have HD2 := hide (kdig2 g C LL L ys w h1 hBk hhl hone hT hb)
  have HD3 := hide (kdig3 g C LL L ys w h1 hBk hhl hone hT hb)
  have HD4 := hide (kdig4 g C LL L ys w h1 hBk hhl hone hT hb)
  have k0 : Blk 75 (w.alloc (.cells #[.int .u8 0, .int .u8 0, .int .u8 0, .int .u8 0, .int .u8 0, .int .u8 0, .int .u8 0, .int .u8 0, .int .u8 0, .int .u8 0, .int .u8 0, .int .u8 0, .int .u8 0, .int .u8 0, .int .u8 0, .int .u8 0, .int .u8 0, .int .u8 0, .int .u8 0, .int .u8 0, .int .u8 0, .int .u8 0, .int .u8 0, .int .u8 0, .int .u8 0, .int .u8 0, .int .u8 0, .int .u8 0, .int .u8 0, .int .u8 0, .int .u8 0, .int .u8 0] 26)).drew g LL := Blk.heap (hBk.alloc _) rfl
  have k1 : Blk 75 ((w.alloc (.cells #[.int .u8 0, .int .u8 0, .int .u8 0, .int .u8 0, .int .u8 0, .int .u8 0, .int .u8 0, .int .u8 0, .int .u8 0, .int .u8 0, .int .u8 0, .int .u8 0, .int .u8 0, .int .u8 0, .int .u8 0, .int .u8 0, .int .u8 0, .int .u8 0, .int .u8 0, .int .u8 0, .int .u8 0, .int .u8 0, .int .u8 0, .int .u8 0, .int .u8 0, .int .u8 0, .int .u8 0, .int .u8 0, .int .u8 0, .int .u8 0, .int .u8 0, .int .u8 0] 26)).alloc (.cells #[.int .u8 0, .int .u8 0, .int .u8 0, .int .u8 0, .int .u8 0, .int .u8 0, .int .u8 0, .int .u8 0, .int .u8 0, .int .u8 0, .int .u8 0, .int .u8 0, .int .u8 0, .int .u8 0, .int .u8 0, .int .u8 0, .int .u8 0, .int .u8 0, .int .u8 0, .int .u8 0, .int .u8 0, .int .u8 0, .int .u8 0, .int .u8 0, .int .u8 0, .int .u8 0, .int .u8 0, .int .u8 0, .int .u8 0, .int .u8 0, .int .u8 0, .int .u8 0] 26)).drew g LL := Blk.heap ((hBk.alloc _).alloc _) rfl
  have k2 : Blk 75 ((w.alloc (.cells #[.int .u8 0, .int .u8 0, .int .u8 0, .int .u8 0, .int .u8 0, .int .u8 0, .int .u8 0, .int .u8 0, .int .u8 0, .int .u8 0, .int .u8 0, .int .u8 0, .int .u8 0, .int .u8 0, .int .u8 0, .int .u8 0, .int .u8 0, .int .u8 0, .int .u8 0, .int .u8 0, .int .u8 0, .int .u8 0, .int .u8 0, .int .u8 0, .int .u8 0, .int .u8 0, .int .u8 0, .int .u8 0, .int .u8 0, .int .u8 0, .int .u8 0, .int .u8 0] 26)).alloc (.cells hZero.toArray 73)).drew g LL := Blk.heap ((hBk.alloc _).alloc _) rfl
  have k3 : Blk 75 (((w.alloc (.cells #[.int .u8 0, .int .u8 0, .int .u8 0, .int .u8 0, .int .u8 0, .int .u8 0, .int .u8 0, .int .u8 0, .int .u8 0, .int .u8 0, .int .u8 0, .int .u8 0, .int .u8 0, .int .u8 0, .int .u8 0, .int .u8 0, .int .u8 0, .int .u8 0, .int .u8 0, .int .u8 0, .int .u8 0, .int .u8 0, .int .u8 0, .int .u8 0, .int .u8 0, .int .u8 0, .int .u8 0, .int .u8 0, .int .u8 0, .int .u8 0, .int .u8 0, .int .u8 0] 26)).alloc (.cells #[.int .u8 0, .int .u8 0, .int .u8 0, .int .u8 0, .int .u8 0, .int .u8 0, .int .u8 0, .int .u8 0, .int .u8 0, .int .u8 0, .int .u8 0, .int .u8 0, .int .u8 0, .int .u8 0, .int .u8 0, .int .u8 0, .int .u8 0, .int .u8 0, .int .u8 0, .int .u8 0, .int .u8 0, .int .u8 0, .int .u8 0, .int .u8 0, .int .u8 0, .int .u8 0, .int .u8 0, .int .u8 0, .int .u8 0, .int .u8 0, .int .u8 0, .int .u8 0] 26)).alloc (.cells hZero.toArray 73)).drew g LL := Blk.heap (((hBk.alloc _).alloc _).alloc _) rfl
  have k4 : Blk 75 (((w.alloc (.cells #[.int .u8 0, .int .u8 0, .int .u8 0, .int .u8 0, .int .u8 0, .int .u8 0, .int .u8 0, .int .u8 0, .int .u8 0, .int .u8 0, .int .u8 0, .int .u8 0, .int .u8 0, .int .u8 0, .int .u8 0, .int .u8 0, .int .u8 0, .int .u8 0, .int .u8 0, .int .u8 0, .int .u8 0, .int .u8 0, .int .u8 0, .int .u8 0, .int .u8 0, .int .u8 0, .int .u8 0, .int .u8 0, .int .u8 0, .int .u8 0, .int .u8 0, .int .u8 0] 26)).alloc (.cells hZero.toArray 73)).alloc (.cells #[.int .u8 0, .int .u8 0, .int .u8 0, .int .u8 0, .int .u8 0, .int .u8 0, .int .u8 0, .int .u8 0, .int .u8 0, .int .u8 0, .int .u8 0, .int .u8 0, .int .u8 0, .int .u8 0, .int .u8 0, .int .u8 0, .int .u8 0, .int .u8 0, .int .u8 0, .int .u8 0, .int .u8 0, .int .u8 0, .int .u8 0, .int .u8 0, .int .u8 0, .int .u8 0, .int .u8 0, .int .u8 0, .int .u8 0, .int .u8 0, .int .u8 0, .int .u8 0] 26)).drew g LL := Blk.heap (((hBk.alloc _).alloc _).alloc _) rfl
  have hid26 : (Tryd.prog.info? 26).map (·.size) = some ((dig ys).map (Value.int .u8)).length := by rw [List.length_map, dig_len]; exact info_dig
  have hid56 : (Tryd.prog.info? 73).map (·.size) = some L.length := by rw [hhl]; exact info_hash
  have hone1 : ∀ v ∈ ((dig ys).map (Value.int .u8)), v.oneCell' = true := ints_one _ _
  clear h1 hBk hL hLL hp1 hp2 hhl hA hb hb2 hT
  go_enter Tryd.func20, Tryd.ntmps20
  go_wp2_with fail
  refine HKM.out.mono ?_
  rintro e w1 ⟨rfl, hw⟩
  subst hw
  clear HKM
  go_wp2
  go_region_held3 (fun W => Blk 75 W g LL) ((first | assumption | (apply Blk.alloc; assumption) | (apply Blk.alloc; apply Blk.alloc; assumption))) ((go_at_call 29; first | (refine HD0.out.mono ?_; rintro e w2 ⟨rfl, hk2, ⟨hth1, hth2, hkV1, hkV2, HX, HY, HDD, HW, HNE⟩, ⟨htu1, htu2, hkU1, hkU2, HXu, HYu, HDu, HWu, HNu⟩⟩) | (refine HD1.out.mono ?_; rintro e w2 ⟨rfl, hk2, hth1, hth2, hkV1, hkV2, HX, HY, HDD, HW, HNE⟩) | (refine HD2.out.mono ?_; rintro e w2 ⟨rfl, hk2, hth1, hth2, hkV1, hkV2, HX, HY, HDD, HW, HNE⟩) | (refine HD3.out.mono ?_; rintro e w2 ⟨rfl, hk2, hth1, hth2, hkV1, hkV2, HX, HY, HDD, HW, HNE⟩) | (refine HD4.out.mono ?_; rintro e w2 ⟨rfl, hk2, hth1, hth2, hkV1, hkV2, HX, HY, HDD, HW, HNE⟩)))
  all_goals clear HD0 HD1 HD2 HD3 HD4 k0 k1 k2 k3 k4 hld
  · obtain ⟨V2, hV2⟩ : ∃ V2, (((w2.alloc (.cells #[.int .u8 0, .int .u8 0, .int .u8 0, .int .u8 0, .int .u8 0, .int .u8 0, .int .u8 0, .int .u8 0, .int .u8 0, .int .u8 0, .int .u8 0, .int .u8 0, .int .u8 0, .int .u8 0, .int .u8 0, .int .u8 0, .int .u8 0, .int .u8 0, .int .u8 0, .int .u8 0, .int .u8 0, .int .u8 0, .int .u8 0, .int .u8 0, .int .u8 0, .int .u8 0, .int .u8 0, .int .u8 0, .int .u8 0, .int .u8 0, .int .u8 0, .int .u8 0] 26)).alloc (.cells hZero.toArray 73)).setCells (w2.heap.size) 0 ((dig ys).map (Value.int .u8))).setCells (w2.heap.size + 1) 0 L = V2 := ⟨_, rfl⟩
    rw [hV2] at HX HY HDD HW
    rw [hV2]
    clear hV2
    have HV2 := hide (HT.out.below ((HW).out.alloc (HW).out.size (.cells #[.slice (some ⟨w2.heap.size, 0, none⟩) 32 32] 22)) HLt.out)
    have HSB := hide ((blk_src (HX).out (dig_dg ys) (dig_len ys) (by omega)).alloc (.cells #[.slice (some ⟨w2.heap.size, 0, none⟩) 32 32] 22))
    have HHs := hide (Hs.alloc (HS.out _ _ (HY).out) (.cells #[.slice (some ⟨w2.heap.size, 0, none⟩) 32 32] 22))
    go_wp2_with fail
    refine (take_any 73 (w2.heap.size + 1) 0 [] [] zs (some ⟨V2.heap.size, 0, none⟩) 1 1 [dig ys] (V2.alloc (.cells #[.slice (some ⟨w2.heap.size, 0, none⟩) 32 32] 22)) HHs.out rfl (Pcs.one (a := some ⟨w2.heap.size, 0, none⟩) (n := 32) (c := 32) (xs := dig ys) (by simp) (fun h => by have := (HY).out.lt; omega) HSB.out (fun b' o' he _ => by simp at he; have := (HNE).out; omega)) HV2.out (by have := (HNE).out; have := HLt.out; omega) (by have := HB2.out; simp [dig_len]; omega) (by omega)).mono ?_
    rintro e w5 ⟨rfl, hH5, hG5⟩
    have HD5 : Hid (Blk 26 w5 w.heap.size (List.replicate 32 (.int .u8 0))) := ((HDD).out.alloc _).kept hG5 (fun h => by have := Option.some.inj h; have := (HNE).out; omega)
    have HW5 : Hid (Below w.heap.size w w5) := ((HW).out.alloc (HW).out.size _).grown hG5 (by have := (HW).out.size; simp; omega) (fun k hk => by simp at hk; have := (HNE).out; omega)
    have e5 : zs ++ [dig ys].flatten = zs ++ dig ys := by simp
    rw [e5] at hH5
    have HH5 := hide hH5
    clear hH5 hG5 e5
    go_wp2_with fail
    refine (digest_any 73 (w2.heap.size + 1) 0 [] [] (zs ++ dig ys) w5 HH5.out rfl (HT.out.below HW5.out HLt.out) (by have := HB2.out; simp [dig_len]; omega)).mono ?_
    rintro e w6 ⟨rfl, hB6⟩
    have HD6 := hide (HD5.out.below hB6)
    have HW6 : Hid (Below w.heap.size w w6) := HW5.out.trans (hB6.mono HW5.out.size)
    clear hB6
    have hid : (Tryd.prog.info? 26).map (·.size) = some ((dig (zs ++ dig ys)).map (Value.int .u8)).length := by rw [List.length_map, dig_len]; exact info_dig
    have hs8 : (stA 26 (.pointer (some ⟨w.heap.size, 0, none⟩)) (.agg ((dig (zs ++ dig ys)).map (Value.int .u8)).toArray)).run Tryd.prog w6 = .ok () (w6.setCells w.heap.size 0 ((dig (zs ++ dig ys)).map (Value.int .u8))) := stA_all hid HD6.out (by simp [dig_len]) (ints_one _ _)
    have hB2 := Blk.sets ((dig (zs ++ dig ys)).map (Value.int .u8)) 0 _ w6 HD6.out (by simp [dig_len])
    go_wp2
    refine bodyPost_ret (v := .agg ((dig (zs ++ dig ys)).map (Value.int .u8)).toArray) ?_ rfl ⟨rfl, ?_⟩
    · refine results_one (T := 26) (X := (dig (zs ++ dig ys)).map (Value.int .u8)) (p := 2) (ty := 26) (g := w.heap.size) (by kernel_rfl) _ _ rfl Tryd.underlying26 rfl hid ?_
      have e := hB2
      simp [dig_len] at e
      exact e
    · exact below_sets HW6.out (Nat.le_refl _) HW6.out.size _ _
  · obtain ⟨V2, hV2⟩ : ∃ V2, (((w2.alloc (.cells hZero.toArray 73)).alloc (.cells #[.int .u8 0, .int .u8 0, .int .u8 0, .int .u8 0, .int .u8 0, .int .u8 0, .int .u8 0, .int .u8 0, .int .u8 0, .int .u8 0, .int .u8 0, .int .u8 0, .int .u8 0, .int .u8 0, .int .u8 0, .int .u8 0, .int .u8 0, .int .u8 0, .int .u8 0, .int .u8 0, .int .u8 0, .int .u8 0, .int .u8 0, .int .u8 0, .int .u8 0, .int .u8 0, .int .u8 0, .int .u8 0, .int .u8 0, .int .u8 0, .int .u8 0, .int .u8 0] 26)).setCells (w2.heap.size + 1) 0 ((dig ys).map (Value.int .u8))).setCells (w2.heap.size) 0 L = V2 := ⟨_, rfl⟩
    rw [hV2] at HXu HYu HDu HWu
    rw [hV2]
    clear hV2
    have HV2 := hide (HT.out.below ((HWu).out.alloc (HWu).out.size (.cells #[.slice (some ⟨w2.heap.size + 1, 0, none⟩) 32 32] 22)) HLt.out)
    have HSB := hide ((blk_src (HXu).out (dig_dg ys) (dig_len ys) (by omega)).alloc (.cells #[.slice (some ⟨w2.heap.size + 1, 0, none⟩) 32 32] 22))
    have HHs := hide (Hs.alloc (HS.out _ _ (HYu).out) (.cells #[.slice (some ⟨w2.heap.size + 1, 0, none⟩) 32 32] 22))
    go_wp2_with fail
    refine (take_any 73 (w2.heap.size) 0 [] [] zs (some ⟨V2.heap.size, 0, none⟩) 1 1 [dig ys] (V2.alloc (.cells #[.slice (some ⟨w2.heap.size + 1, 0, none⟩) 32 32] 22)) HHs.out rfl (Pcs.one (a := some ⟨w2.heap.size + 1, 0, none⟩) (n := 32) (c := 32) (xs := dig ys) (by simp) (fun h => by have := (HYu).out.lt; omega) HSB.out (fun b' o' he _ => by simp at he; have := (HNu).out; omega)) HV2.out (by have := (HNu).out; have := HLt.out; omega) (by have := HB2.out; simp [dig_len]; omega) (by omega)).mono ?_
    rintro e w5 ⟨rfl, hH5, hG5⟩
    have HD5 : Hid (Blk 26 w5 w.heap.size (List.replicate 32 (.int .u8 0))) := ((HDu).out.alloc _).kept hG5 (fun h => by have := Option.some.inj h; have := (HNu).out; omega)
    have HW5 : Hid (Below w.heap.size w w5) := ((HWu).out.alloc (HWu).out.size _).grown hG5 (by have := (HWu).out.size; simp; omega) (fun k hk => by simp at hk; have := (HNu).out; omega)
    have e5 : zs ++ [dig ys].flatten = zs ++ dig ys := by simp
    rw [e5] at hH5
    have HH5 := hide hH5
    clear hH5 hG5 e5
    go_wp2_with fail
    refine (digest_any 73 (w2.heap.size) 0 [] [] (zs ++ dig ys) w5 HH5.out rfl (HT.out.below HW5.out HLt.out) (by have := HB2.out; simp [dig_len]; omega)).mono ?_
    rintro e w6 ⟨rfl, hB6⟩
    have HD6 := hide (HD5.out.below hB6)
    have HW6 : Hid (Below w.heap.size w w6) := HW5.out.trans (hB6.mono HW5.out.size)
    clear hB6
    have hid : (Tryd.prog.info? 26).map (·.size) = some ((dig (zs ++ dig ys)).map (Value.int .u8)).length := by rw [List.length_map, dig_len]; exact info_dig
    have hs8 : (stA 26 (.pointer (some ⟨w.heap.size, 0, none⟩)) (.agg ((dig (zs ++ dig ys)).map (Value.int .u8)).toArray)).run Tryd.prog w6 = .ok () (w6.setCells w.heap.size 0 ((dig (zs ++ dig ys)).map (Value.int .u8))) := stA_all hid HD6.out (by simp [dig_len]) (ints_one _ _)
    have hB2 := Blk.sets ((dig (zs ++ dig ys)).map (Value.int .u8)) 0 _ w6 HD6.out (by simp [dig_len])
    go_wp2
    refine bodyPost_ret (v := .agg ((dig (zs ++ dig ys)).map (Value.int .u8)).toArray) ?_ rfl ⟨rfl, ?_⟩
    · refine results_one (T := 26) (X := (dig (zs ++ dig ys)).map (Value.int .u8)) (p := 2) (ty := 26) (g := w.heap.size) (by kernel_rfl) _ _ rfl Tryd.underlying26 rfl hid ?_
      have e := hB2
      simp [dig_len] at e
      exact e
    · exact below_sets HW6.out (Nat.le_refl _) HW6.out.size _ _
  · obtain ⟨V2, hV2⟩ : ∃ V2, ((w2.alloc (.cells hZero.toArray 73)).setCells (w.heap.size + 1) 0 ((dig ys).map (Value.int .u8))).setCells (w2.heap.size) 0 L = V2 := ⟨_, rfl⟩
    rw [hV2] at HX HY HDD HW
    rw [hV2]
    clear hV2
    have HV2 := hide (HT.out.below ((HW).out.alloc (HW).out.size (.cells #[.slice (some ⟨w.heap.size + 1, 0, none⟩) 32 32] 22)) HLt.out)
    have HSB := hide ((blk_src (HX).out (dig_dg ys) (dig_len ys) (by omega)).alloc (.cells #[.slice (some ⟨w.heap.size + 1, 0, none⟩) 32 32] 22))
    have HHs := hide (Hs.alloc (HS.out _ _ (HY).out) (.cells #[.slice (some ⟨w.heap.size + 1, 0, none⟩) 32 32] 22))
    go_wp2_with fail
    refine (take_any 73 (w2.heap.size) 0 [] [] zs (some ⟨V2.heap.size, 0, none⟩) 1 1 [dig ys] (V2.alloc (.cells #[.slice (some ⟨w.heap.size + 1, 0, none⟩) 32 32] 22)) HHs.out rfl (Pcs.one (a := some ⟨w.heap.size + 1, 0, none⟩) (n := 32) (c := 32) (xs := dig ys) (by simp) (fun h => by have := (HY).out.lt; omega) HSB.out (fun b' o' he _ => by simp at he; have := (HNE).out; omega)) HV2.out (by have := (HNE).out; have := HLt.out; omega) (by have := HB2.out; simp [dig_len]; omega) (by omega)).mono ?_
    rintro e w5 ⟨rfl, hH5, hG5⟩
    have HD5 : Hid (Blk 26 w5 w.heap.size (List.replicate 32 (.int .u8 0))) := ((HDD).out.alloc _).kept hG5 (fun h => by have := Option.some.inj h; have := (HNE).out; omega)
    have HW5 : Hid (Below w.heap.size w w5) := ((HW).out.alloc (HW).out.size _).grown hG5 (by have := (HW).out.size; simp; omega) (fun k hk => by simp at hk; have := (HNE).out; omega)
    have e5 : zs ++ [dig ys].flatten = zs ++ dig ys := by simp
    rw [e5] at hH5
    have HH5 := hide hH5
    clear hH5 hG5 e5
    go_wp2_with fail
    refine (digest_any 73 (w2.heap.size) 0 [] [] (zs ++ dig ys) w5 HH5.out rfl (HT.out.below HW5.out HLt.out) (by have := HB2.out; simp [dig_len]; omega)).mono ?_
    rintro e w6 ⟨rfl, hB6⟩
    have HD6 := hide (HD5.out.below hB6)
    have HW6 : Hid (Below w.heap.size w w6) := HW5.out.trans (hB6.mono HW5.out.size)
    clear hB6
    have hid : (Tryd.prog.info? 26).map (·.size) = some ((dig (zs ++ dig ys)).map (Value.int .u8)).length := by rw [List.length_map, dig_len]; exact info_dig
    have hs8 : (stA 26 (.pointer (some ⟨w.heap.size, 0, none⟩)) (.agg ((dig (zs ++ dig ys)).map (Value.int .u8)).toArray)).run Tryd.prog w6 = .ok () (w6.setCells w.heap.size 0 ((dig (zs ++ dig ys)).map (Value.int .u8))) := stA_all hid HD6.out (by simp [dig_len]) (ints_one _ _)
    have hB2 := Blk.sets ((dig (zs ++ dig ys)).map (Value.int .u8)) 0 _ w6 HD6.out (by simp [dig_len])
    go_wp2
    refine bodyPost_ret (v := .agg ((dig (zs ++ dig ys)).map (Value.int .u8)).toArray) ?_ rfl ⟨rfl, ?_⟩
    · refine results_one (T := 26) (X := (dig (zs ++ dig ys)).map (Value.int .u8)) (p := 2) (ty := 26) (g := w.heap.size) (by kernel_rfl) _ _ rfl Tryd.underlying26 rfl hid ?_
      have e := hB2
      simp [dig_len] at e
      exact e
    · exact below_sets HW6.out (Nat.le_refl _) HW6.out.size _ _
  · obtain ⟨V2, hV2⟩ : ∃ V2, ((w2).setCells (w.heap.size + 1) 0 ((dig ys).map (Value.int .u8))).setCells (w.heap.size + 1 + 1) 0 L = V2 := ⟨_, rfl⟩
    rw [hV2] at HX HY HDD HW
    rw [hV2]
    clear hV2
    have HV2 := hide (HT.out.below ((HW).out.alloc (HW).out.size (.cells #[.slice (some ⟨w.heap.size + 1, 0, none⟩) 32 32] 22)) HLt.out)
    have HSB := hide ((blk_src (HX).out (dig_dg ys) (dig_len ys) (by omega)).alloc (.cells #[.slice (some ⟨w.heap.size + 1, 0, none⟩) 32 32] 22))
    have HHs := hide (Hs.alloc (HS.out _ _ (HY).out) (.cells #[.slice (some ⟨w.heap.size + 1, 0, none⟩) 32 32] 22))
    go_wp2_with fail
    refine (take_any 73 (w.heap.size + 1 + 1) 0 [] [] zs (some ⟨V2.heap.size, 0, none⟩) 1 1 [dig ys] (V2.alloc (.cells #[.slice (some ⟨w.heap.size + 1, 0, none⟩) 32 32] 22)) HHs.out rfl (Pcs.one (a := some ⟨w.heap.size + 1, 0, none⟩) (n := 32) (c := 32) (xs := dig ys) (by simp) (fun h => by have := (HY).out.lt; omega) HSB.out (fun b' o' he _ => by simp at he; have := (HNE).out; omega)) HV2.out (by have := (HNE).out; have := HLt.out; omega) (by have := HB2.out; simp [dig_len]; omega) (by omega)).mono ?_
    rintro e w5 ⟨rfl, hH5, hG5⟩
    have HD5 : Hid (Blk 26 w5 w.heap.size (List.replicate 32 (.int .u8 0))) := ((HDD).out.alloc _).kept hG5 (fun h => by have := Option.some.inj h; have := (HNE).out; omega)
    have HW5 : Hid (Below w.heap.size w w5) := ((HW).out.alloc (HW).out.size _).grown hG5 (by have := (HW).out.size; simp; omega) (fun k hk => by simp at hk; have := (HNE).out; omega)
    have e5 : zs ++ [dig ys].flatten = zs ++ dig ys := by simp
    rw [e5] at hH5
    have HH5 := hide hH5
    clear hH5 hG5 e5
    go_wp2_with fail
    refine (digest_any 73 (w.heap.size + 1 + 1) 0 [] [] (zs ++ dig ys) w5 HH5.out rfl (HT.out.below HW5.out HLt.out) (by have := HB2.out; simp [dig_len]; omega)).mono ?_
    rintro e w6 ⟨rfl, hB6⟩
    have HD6 := hide (HD5.out.below hB6)
    have HW6 : Hid (Below w.heap.size w w6) := HW5.out.trans (hB6.mono HW5.out.size)
    clear hB6
    have hid : (Tryd.prog.info? 26).map (·.size) = some ((dig (zs ++ dig ys)).map (Value.int .u8)).length := by rw [List.length_map, dig_len]; exact info_dig
    have hs8 : (stA 26 (.pointer (some ⟨w.heap.size, 0, none⟩)) (.agg ((dig (zs ++ dig ys)).map (Value.int .u8)).toArray)).run Tryd.prog w6 = .ok () (w6.setCells w.heap.size 0 ((dig (zs ++ dig ys)).map (Value.int .u8))) := stA_all hid HD6.out (by simp [dig_len]) (ints_one _ _)
    have hB2 := Blk.sets ((dig (zs ++ dig ys)).map (Value.int .u8)) 0 _ w6 HD6.out (by simp [dig_len])
    go_wp2
    refine bodyPost_ret (v := .agg ((dig (zs ++ dig ys)).map (Value.int .u8)).toArray) ?_ rfl ⟨rfl, ?_⟩
    · refine results_one (T := 26) (X := (dig (zs ++ dig ys)).map (Value.int .u8)) (p := 2) (ty := 26) (g := w.heap.size) (by kernel_rfl) _ _ rfl Tryd.underlying26 rfl hid ?_
      have e := hB2
      simp [dig_len] at e
      exact e
    · exact below_sets HW6.out (Nat.le_refl _) HW6.out.size _ _
  · obtain ⟨V2, hV2⟩ : ∃ V2, ((w2.alloc (.cells #[.int .u8 0, .int .u8 0, .int .u8 0, .int .u8 0, .int .u8 0, .int .u8 0, .int .u8 0, .int .u8 0, .int .u8 0, .int .u8 0, .int .u8 0, .int .u8 0, .int .u8 0, .int .u8 0, .int .u8 0, .int .u8 0, .int .u8 0, .int .u8 0, .int .u8 0, .int .u8 0, .int .u8 0, .int .u8 0, .int .u8 0, .int .u8 0, .int .u8 0, .int .u8 0, .int .u8 0, .int .u8 0, .int .u8 0, .int .u8 0, .int .u8 0, .int .u8 0] 26)).setCells (w2.heap.size) 0 ((dig ys).map (Value.int .u8))).setCells (w.heap.size + 1) 0 L = V2 := ⟨_, rfl⟩
    rw [hV2] at HX HY HDD HW
    rw [hV2]
    clear hV2
    have HV2 := hide (HT.out.below ((HW).out.alloc (HW).out.size (.cells #[.slice (some ⟨w2.heap.size, 0, none⟩) 32 32] 22)) HLt.out)
    have HSB := hide ((blk_src (HX).out (dig_dg ys) (dig_len ys) (by omega)).alloc (.cells #[.slice (some ⟨w2.heap.size, 0, none⟩) 32 32] 22))
    have HHs := hide (Hs.alloc (HS.out _ _ (HY).out) (.cells #[.slice (some ⟨w2.heap.size, 0, none⟩) 32 32] 22))
    go_wp2_with fail
    refine (take_any 73 (w.heap.size + 1) 0 [] [] zs (some ⟨V2.heap.size, 0, none⟩) 1 1 [dig ys] (V2.alloc (.cells #[.slice (some ⟨w2.heap.size, 0, none⟩) 32 32] 22)) HHs.out rfl (Pcs.one (a := some ⟨w2.heap.size, 0, none⟩) (n := 32) (c := 32) (xs := dig ys) (by simp) (fun h => by have := (HY).out.lt; omega) HSB.out (fun b' o' he _ => by simp at he; have := (HNE).out; omega)) HV2.out (by have := (HNE).out; have := HLt.out; omega) (by have := HB2.out; simp [dig_len]; omega) (by omega)).mono ?_
    rintro e w5 ⟨rfl, hH5, hG5⟩
    have HD5 : Hid (Blk 26 w5 w.heap.size (List.replicate 32 (.int .u8 0))) := ((HDD).out.alloc _).kept hG5 (fun h => by have := Option.some.inj h; have := (HNE).out; omega)
    have HW5 : Hid (Below w.heap.size w w5) := ((HW).out.alloc (HW).out.size _).grown hG5 (by have := (HW).out.size; simp; omega) (fun k hk => by simp at hk; have := (HNE).out; omega)
    have e5 : zs ++ [dig ys].flatten = zs ++ dig ys := by simp
    rw [e5] at hH5
    have HH5 := hide hH5
    clear hH5 hG5 e5
    go_wp2_with fail
    refine (digest_any 73 (w.heap.size + 1) 0 [] [] (zs ++ dig ys) w5 HH5.out rfl (HT.out.below HW5.out HLt.out) (by have := HB2.out; simp [dig_len]; omega)).mono ?_
    rintro e w6 ⟨rfl, hB6⟩
    have HD6 := hide (HD5.out.below hB6)
    have HW6 : Hid (Below w.heap.size w w6) := HW5.out.trans (hB6.mono HW5.out.size)
    clear hB6
    have hid : (Tryd.prog.info? 26).map (·.size) = some ((dig (zs ++ dig ys)).map (Value.int .u8)).length := by rw [List.length_map, dig_len]; exact info_dig
    have hs8 : (stA 26 (.pointer (some ⟨w.heap.size, 0, none⟩)) (.agg ((dig (zs ++ dig ys)).map (Value.int .u8)).toArray)).run Tryd.prog w6 = .ok () (w6.setCells w.heap.size 0 ((dig (zs ++ dig ys)).map (Value.int .u8))) := stA_all hid HD6.out (by simp [dig_len]) (ints_one _ _)
    have hB2 := Blk.sets ((dig (zs ++ dig ys)).map (Value.int .u8)) 0 _ w6 HD6.out (by simp [dig_len])
    go_wp2
    refine bodyPost_ret (v := .agg ((dig (zs ++ dig ys)).map (Value.int .u8)).toArray) ?_ rfl ⟨rfl, ?_⟩
    · refine results_one (T := 26) (X := (dig (zs ++ dig ys)).map (Value.int .u8)) (p := 2) (ty := 26) (g := w.heap.size) (by kernel_rfl) _ _ rfl Tryd.underlying26 rfl hid ?_
      have e := hB2
      simp [dig_len] at e
      exact e
    · exact below_sets HW6.out (Nat.le_refl _) HW6.out.size _ _
  · obtain ⟨V2, hV2⟩ : ∃ V2, ((w2).setCells (w.heap.size + 1 + 1) 0 ((dig ys).map (Value.int .u8))).setCells (w.heap.size + 1) 0 L = V2 := ⟨_, rfl⟩
    rw [hV2] at HX HY HDD HW
    rw [hV2]
    clear hV2
    have HV2 := hide (HT.out.below ((HW).out.alloc (HW).out.size (.cells #[.slice (some ⟨w.heap.size + 1 + 1, 0, none⟩) 32 32] 22)) HLt.out)
    have HSB := hide ((blk_src (HX).out (dig_dg ys) (dig_len ys) (by omega)).alloc (.cells #[.slice (some ⟨w.heap.size + 1 + 1, 0, none⟩) 32 32] 22))
    have HHs := hide (Hs.alloc (HS.out _ _ (HY).out) (.cells #[.slice (some ⟨w.heap.size + 1 + 1, 0, none⟩) 32 32] 22))
    go_wp2_with fail
    refine (take_any 73 (w.heap.size + 1) 0 [] [] zs (some ⟨V2.heap.size, 0, none⟩) 1 1 [dig ys] (V2.alloc (.cells #[.slice (some ⟨w.heap.size + 1 + 1, 0, none⟩) 32 32] 22)) HHs.out rfl (Pcs.one (a := some ⟨w.heap.size + 1 + 1, 0, none⟩) (n := 32) (c := 32) (xs := dig ys) (by simp) (fun h => by have := (HY).out.lt; omega) HSB.out (fun b' o' he _ => by simp at he; have := (HNE).out; omega)) HV2.out (by have := (HNE).out; have := HLt.out; omega) (by have := HB2.out; simp [dig_len]; omega) (by omega)).mono ?_
    rintro e w5 ⟨rfl, hH5, hG5⟩
    have HD5 : Hid (Blk 26 w5 w.heap.size (List.replicate 32 (.int .u8 0))) := ((HDD).out.alloc _).kept hG5 (fun h => by have := Option.some.inj h; have := (HNE).out; omega)
    have HW5 : Hid (Below w.heap.size w w5) := ((HW).out.alloc (HW).out.size _).grown hG5 (by have := (HW).out.size; simp; omega) (fun k hk => by simp at hk; have := (HNE).out; omega)
    have e5 : zs ++ [dig ys].flatten = zs ++ dig ys := by simp
    rw [e5] at hH5
    have HH5 := hide hH5
    clear hH5 hG5 e5
    go_wp2_with fail
    refine (digest_any 73 (w.heap.size + 1) 0 [] [] (zs ++ dig ys) w5 HH5.out rfl (HT.out.below HW5.out HLt.out) (by have := HB2.out; simp [dig_len]; omega)).mono ?_
    rintro e w6 ⟨rfl, hB6⟩
    have HD6 := hide (HD5.out.below hB6)
    have HW6 : Hid (Below w.heap.size w w6) := HW5.out.trans (hB6.mono HW5.out.size)
    clear hB6
    have hid : (Tryd.prog.info? 26).map (·.size) = some ((dig (zs ++ dig ys)).map (Value.int .u8)).length := by rw [List.length_map, dig_len]; exact info_dig
    have hs8 : (stA 26 (.pointer (some ⟨w.heap.size, 0, none⟩)) (.agg ((dig (zs ++ dig ys)).map (Value.int .u8)).toArray)).run Tryd.prog w6 = .ok () (w6.setCells w.heap.size 0 ((dig (zs ++ dig ys)).map (Value.int .u8))) := stA_all hid HD6.out (by simp [dig_len]) (ints_one _ _)
    have hB2 := Blk.sets ((dig (zs ++ dig ys)).map (Value.int .u8)) 0 _ w6 HD6.out (by simp [dig_len])
    go_wp2
    refine bodyPost_ret (v := .agg ((dig (zs ++ dig ys)).map (Value.int .u8)).toArray) ?_ rfl ⟨rfl, ?_⟩
    · refine results_one (T := 26) (X := (dig (zs ++ dig ys)).map (Value.int .u8)) (p := 2) (ty := 26) (g := w.heap.size) (by kernel_rfl) _ _ rfl Tryd.underlying26 rfl hid ?_
      have e := hB2
      simp [dig_len] at e
      exact e
    · exact below_sets HW6.out (Nat.le_refl _) HW6.out.size _ _

end Go.Proofs.YtgajejomibnghaaDoor
