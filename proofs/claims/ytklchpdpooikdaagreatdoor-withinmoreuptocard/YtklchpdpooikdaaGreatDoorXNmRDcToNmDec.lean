/-
  The document's Decode of a name.
  name.Decode: memory while it ranges.
-/
import Derived.Test.YtklchpdpooikdaaGreatDoorXNmGue
import Derived.Test.YtklchpdpooikdaaGreatDoorXEachJ
import Derived.Test.YtklchpdpooikdaaGreatDoorXHoLToBoxSt
import Derived.Test.YtklchpdpooikdaaGreatDoorXLentToTxV1
namespace Go.Proofs.YtklchpdpooikdaaGreatDoor
open Go.RowKit Go.IntWalk Go.Shelf

theorem encNE_ok (n : List (Int × ByteArray)) : encNE n = if nameL n = true then 0 else 120 := rfl
theorem okN_of {xs : List Int} {n : List (Int × ByteArray)} : okN xs n = (nameL n && decide (encNC n = xs)) := rfl

set_option maxRecDepth 100000 in
set_option maxHeartbeats 2000000 in
theorem rdecode_any (ao : Option Addr) (n cap : Nat) (xs : List Int) (w : World) (hs : Src w ao n cap xs) (hN : n ≤ 1048576) :
    Calls Tryz.prog 37 #[.slice ao n cap] w fun e w' => ∃ a m c, e = .returned (.tuple #[.slice a m c, .int .i64 (ansE xs)]) ∧ OwnA w' w.heap.size (.slice a m c) (ansN xs) ∧ Below w.heap.size w w' := by
  have h1 := hide (refOne_any ao n cap xs w hs (by omega))
  have HS := hide hs
  have HZ : Hid (∀ x ∈ gsN xs, x.2.size ≤ 1048576) := fun x hx => by
    have h5 := gsN_len xs x hx
    have := hs.hlen
    omega
  have HA1 : Hid ((oneS xs).2.2 ≠ 0 → ansN xs = [] ∧ ansE xs = (oneS xs).2.2) := fun h => ⟨by unfold ansN; rw [if_pos h], by unfold ansE; rw [if_pos h]⟩
  have HA2 : Hid ((oneS xs).2.2 = 0 → okN xs (gsN xs) = true → ansN xs = gsN xs ∧ ansE xs = 0) := fun h hk => by
    obtain ⟨q1, q2⟩ := ok_both xs
    rw [hk] at q1
    have h' : ¬ ((oneS xs).2.2 ≠ 0) := by simpa using h
    refine ⟨?_, ?_⟩
    · unfold ansN; rw [if_neg h', if_pos q1]; exact q2 q1
    · unfold ansE; rw [if_neg h', if_pos q1]
  have HA3 : Hid ((oneS xs).2.2 = 0 → okN xs (gsN xs) = false → ansN xs = [] ∧ ansE xs = 120) := fun h hk => by
    obtain ⟨q1, q2⟩ := ok_both xs
    rw [hk] at q1
    have h' : ¬ ((oneS xs).2.2 ≠ 0) := by simpa using h
    refine ⟨?_, ?_⟩
    · unfold ansN; rw [if_neg h', if_neg (by rw [q1]; decide)]
    · unfold ansE; rw [if_neg h', if_neg (by rw [q1]; decide)]
  have hG := hide (fun W (h : Src W ao n cap xs) => guess_any ao n cap xs W h hN)
  have HB := hs.hbyt
  clear hs
  generalize ansN xs = AN at *
  generalize ansE xs = AE at *
  generalize gsN xs = G at *
  generalize (oneS xs).2.2 = er at *
  generalize (oneS xs).1 = tg at *
  generalize (oneS xs).2.1 = X at *
  go_enter Tryz.func37, Tryz.ntmps37
  go_wp2_with fail
  refine h1.out.mono ?_
  rintro e w1 ⟨a1, m1, c1, rfl, _, B1⟩
  have bA := nbelow w1 (.cells #[.int .i64 tg, .slice a1 m1 c1] 74)
  have BA := hide (B1.trans (bA.mono B1.size))
  have h2 := hide (hG.out _ ((HS.out.below B1).below bA))
  have HS2 := hide ((HS.out.below B1).below bA)
  clear h1 hG B1 bA HS
  by_cases h0 : er = 0
  · subst h0
    have e0 : ((0 : Int) != 0) = false := rfl
    go_wp2_with fail
    refine h2.out.mono ?_
    rintro e w2 ⟨a2, m2, c2, rfl, o2, B2⟩
    have A2 := o2.ats HZ.out
    have h3 := hide (rencodeN_any a2 m2 c2 G w2 A2 HZ.out)
    have HB2 := hide (BA.out.trans (B2.mono BA.out.size))
    have HO := hide (o2.rebase BA.out.size)
    have HS3 := hide (HS2.out.below B2)
    have hE := encNE_ok G
    clear h2 A2 o2 B2 HS2 BA
    generalize encNE G = en at *
    have hk := okN_of (xs := xs) (n := G)
    have hby : ∀ c, OwnB c 0 (.slice none 0 0) [] → True := fun _ _ => trivial
    have HEB : Hid (∀ x ∈ encNC G, 0 ≤ x ∧ x < 256) := by
      unfold encNC
      split
      · exact putB_byte _ _ (fun l hl => by simp at hl; subst hl; exact encR_byte _)
      · intro x hx; cases hx
    clear hby
    generalize encNC G = C at *
    go_wp2_with fail
    refine h3.out.mono ?_
    rintro e w3 ⟨a3, m3, c3, rfl, o3, B3⟩
    have s3 := o3.toSrc HEB.out
    have HB3 := hide (HB2.out.trans (B3.mono HB2.out.size))
    have HO3 := hide (HO.out.below B3)
    have s0 := HS3.out.below B3
    have t3 := s3.text
    have t0 := s0.text
    have te := textN_eq s3.hbyt s0.hbyt
    clear h3 o3 B3 HB2 HO HS3 s3 s0 HEB
    generalize strOfNums C = S1 at *
    generalize strOfNums xs = S2 at *
    cases hn : nameL G with
    | true =>
      rw [hn] at hE hk
      rw [if_pos rfl] at hE
      subst hE
      have e1 : ((0 : Int) != 0) = false := rfl
      by_cases hc : C = xs
      · rw [decide_eq_true hc] at te hk
        obtain ⟨rfl, rfl⟩ := HA2.out (by trivial) hk
        clear hk hn HA1 HA2 HA3
        go_wp2
        refine bodyPost_ret (v := .tuple #[.slice a2 m2 c2, .int .i64 0]) (by simp [results, Tryz.results37, go_sem]) rfl ⟨a2, m2, c2, rfl, HO3.out, HB3.out⟩
      · rw [decide_eq_false hc] at te hk
        obtain ⟨rfl, rfl⟩ := HA3.out (by trivial) hk
        clear hk hn HA1 HA2 HA3
        go_wp2
        refine bodyPost_ret (v := .tuple #[.slice none 0 0, .int .i64 120]) (by simp [results, Tryz.results37, go_sem]) rfl ⟨none, 0, 0, rfl, OwnA.nil _ _, HB3.out⟩
    | false =>
      rw [hn] at hE hk
      rw [if_neg (by decide)] at hE
      subst hE
      have e1 : ((120 : Int) != 0) = true := rfl
      obtain ⟨rfl, rfl⟩ := HA3.out (by trivial) (by rw [hk]; rfl)
      clear hk hn HA1 HA2 HA3 te t3 t0
      go_wp2
      refine bodyPost_ret (v := .tuple #[.slice none 0 0, .int .i64 120]) (by simp [results, Tryz.results37, go_sem]) rfl ⟨none, 0, 0, rfl, OwnA.nil _ _, HB3.out⟩
  · have e0 : (er != 0) = true := by simpa using h0
    obtain ⟨rfl, rfl⟩ := HA1.out h0
    clear h2 HA1 HA2 HA3
    go_wp2
    refine bodyPost_ret (v := .tuple #[.slice none 0 0, .int .i64 AE]) (by simp [results, Tryz.results37, go_sem]) rfl ⟨none, 0, 0, rfl, OwnA.nil _ _, BA.out⟩

end Go.Proofs.YtklchpdpooikdaaGreatDoor

namespace Go.Proofs.YtklchpdpooikdaaGreatDoor
open Go.RowKit Go.Shelf Go.IntWalk
attribute [local go_sem] Oper.semAt_some

theorem eachN_enters : ∀ args w, (callFunc 147 args).run Tryz.prog w = .ok (.enter 147 args) w := enters_of Tryz.func147 (by kernel_rfl) rfl
/-- A range over der.Each's function. -/
theorem eachN_enter {g : Operand} {ps : Array Tmp} {assign body : Code} {Q : Exit → Act → World → Prop} {a : Act} {w : World} {B : Nat} (hg : a.eval g = .func (.func 147) #[] #[.pointer (some ⟨B, 0, none⟩)])
    (h : ∀ fn, Fence.wide.fn fn → CallsIn Fence.wide 7 Tryz.prog 147 #[.func (.yield (w.heap.size + 1)) #[] #[], .pointer (some ⟨B, 0, none⟩)] ((w.alloc (.deferred (some []))).alloc (.loop (recOf fn a.tmps ps assign body w.heap.size .ready none)))
      (rangePost Fence.wide 8 Tryz.prog (w.heap.size + 1) Q { a with defers := { target := .collected w.heap.size, args := #[] } :: a.defers })) :
    (Code.rangeFunc g ps assign body).wp Tryz.prog Q a w :=
  wpIn_wide.1 (range_enter (n := 8) rfl (by decide) hg trivial eachN_enters h)

theorem BSt.mk2 {w W : World} {a0 a1 : Nat} {t0 t1 : TypeId} {v0 v1 : Value} (h0 : Boxed W a0 t0 v0) (h1 : Boxed W a1 t1 v1) (o : w.heap.size ≤ a0 ∧ a0 < a1) (hb : Below w.heap.size w W) : BSt w [(a0, t0, v0), (a1, t1, v1)] [] W := by
  obtain ⟨o0, o1⟩ := o
  refine ⟨fun i x hx => ?_, fun i j x y hx hy he => ?_, fun D hD => (by cases hD), hb⟩
  · match i, hx with
    | 0, hx => cases hx; exact ⟨o0, h0⟩
    | 1, hx => cases hx; exact ⟨by simp only; omega, h1⟩
    | i + 2, hx => simp at hx
  · match i, j, hx, hy with
    | 0, 0, _, _ => rfl
    | 1, 1, _, _ => rfl
    | 0, 1, hx, hy | 1, 0, hx, hy => cases hx; cases hy; simp only at he; omega
    | i + 2, _, hx, _ => simp at hx
    | _, j + 2, _, hy => simp at hy

/-- A row of attributes stays as a block of another make turns. -/
theorem OwnA.put {W : World} {base : Nat} {v : Value} {xs : List (Int × ByteArray)} (h : OwnA W base v xs) {k : Nat} {x : Obj} (hk : W.heap[k]? = some x) (hx : x.isCells = false) (o : Obj) : OwnA (W.putObj k o) base v xs :=
  row_kept h (grownBy_putObj' W k o) (fun r e c hc => by cases e; rw [hk] at hc; cases hc; cases hx)
theorem OwnA.setBox {W : World} {base : Nat} {v : Value} {xs : List (Int × ByteArray)} (h : OwnA W base v xs) {k : Nat} {t : TypeId} {u : Value} (hk : Boxed W k t u) (ht : t ≠ 111) (y : Value) : OwnA (W.setCell ⟨k, 0, none⟩ y) base v xs :=
  row_kept h (grownBy_setCell' W k y) (fun r e c hc => by cases e; rw [show W.heap[k]? = _ from hk] at hc; cases hc; exact ht rfl)
theorem LSt.grownA {w A C : World} {bx : List (Nat × TypeId × Value)} {ds : List Nat} {l : Nat} {r : Loop} (h : LSt w bx ds l r A) {v : Value} {xs : List (Int × ByteArray)} (ho : OwnA A w.heap.size v xs) (hg : A.grownBy C v.ownBlock) (ht : ∀ x ∈ bx, x.2.1 ≠ 111) : LSt w bx ds l r C := by
  have key : ∀ (k : Nat) (o : Obj), A.heap[k]? = some o → (∀ c, o ≠ .cells c 111 (0, 0)) → C.heap[k]? = A.heap[k]? := fun k o hk hn =>
    hg.block k (Array.getElem?_eq_some_iff.1 hk).1 (fun e => by
      obtain ⟨c, hc⟩ := row_type ho k e.symm
      rw [hk] at hc
      cases hc
      exact hn c rfl)
  refine ⟨⟨fun i x hx => ?_, h.st.nd, fun D hD => ?_, h.st.bel.grown hg h.st.bel.size (fun k hk => (World.ownsRow.lt ho k hk).1)⟩, ?_, h.ol⟩
  · have h1 := h.st.box i x hx
    refine ⟨h1.1, (key x.1 _ h1.2 (fun c e => ?_)).trans h1.2⟩
    injection e with e1 e2 e3
    exact ht x (List.mem_of_getElem? hx) e2
  · have h1 := h.st.dfr D hD
    exact ⟨h1.1, (key D _ h1.2 (fun c e => by cases e)).trans h1.2⟩
  · exact (key l _ h.loop (fun c e => by cases e)).trans h.loop

/-- What was read so far. -/
def dlN (C : List Int) (pre : List (Pl C)) : List (Int × ByteArray) := pre.map (fun x => dcA (contS (C.drop x.1)))
theorem dlN_snoc (C : List Int) (pre : List (Pl C)) (x : Pl C) : dlN C (pre ++ [x]) = dlN C pre ++ [dcA (contS (C.drop x.1))] := by unfold dlN; rw [List.map_append]; rfl
theorem dlN_len (C : List Int) (pre : List (Pl C)) : (dlN C pre).length = pre.length := by unfold dlN; rw [List.length_map]
theorem dlN_map (C : List Int) (pre : List (Pl C)) : dlN C pre = (pre.map (·.1)).map (fun p => dcA (contS (C.drop p))) := by unfold dlN; rw [List.map_map]; rfl
theorem dlN_size (C : List Int) (pre : List (Pl C)) : ∀ x ∈ dlN C pre, x.2.size ≤ C.length := by
  intro x hx
  unfold dlN at hx
  obtain ⟨y, _, rfl⟩ := List.mem_map.1 hx
  have h1 := dcA_len (contS (C.drop y.1))
  have h2 := cont_len (C.drop y.1)
  rw [List.length_drop] at h2
  omega
theorem dlN_all {xs C : List Int} (hC : (oneS xs).2.1 = C) {ys : List (Pl C)} (h : ys.map (·.1) = placesS C 0) (hl : ys.length ≤ 16) : dlN C ys = decN xs := by
  unfold decN
  rw [hC, dlN_map, h, List.take_of_length_le]
  rw [List.length_map, ← h, List.length_map]
  omega
theorem dlN_pre {xs C : List Int} (hC : (oneS xs).2.1 = C) {ys : List (Pl C)} (h : ys.map (·.1) <+: placesS C 0) (hl : ys.length = 17) : dlN C ys = decN xs := by
  obtain ⟨t, ht⟩ := h
  unfold decN
  rw [hC, dlN_map, ← ht, List.map_append, List.take_left' (by rw [List.length_map, List.length_map]; exact hl)]

/-- The two boxes while it ranges. -/
def decBx (Nb B : Nat) (n k : Value) : List (Nat × TypeId × Value) := [(Nb, 61, n), (B, 64, k)]
/-- What the round reads. -/
structure DecJ (w : World) (Nb B D N0 E : Nat) (aK : Option Addr) (m cK : Nat) (C : List Int) (r : Loop) (l : Nat) (ns : List (Int × ByteArray)) (W : World) (aN : Option Addr) (mN cN : Nat) : Prop where
  st : LSt w (decBx Nb B (.slice aN mN cN) (.slice aK m cK)) [D] l r W
  row : OwnA W w.heap.size (.slice aN mN cN) ns
  far : ∀ g, (Value.slice aN mN cN).ownBlock = some g → N0 + 4 ≤ g
  src : OwnB W E (.slice aK m cK) C
theorem DecJ.below {w : World} {Nb B D N0 E : Nat} {aK : Option Addr} {m cK : Nat} {C : List Int} {r : Loop} {l : Nat} {ns : List (Int × ByteArray)} {W W' : World} {aN : Option Addr} {mN cN : Nat} (h : DecJ w Nb B D N0 E aK m cK C r l ns W aN mN cN) (hb : Below W.heap.size W W') : DecJ w Nb B D N0 E aK m cK C r l ns W' aN mN cN :=
  ⟨h.st.below hb, h.row.below hb, h.far, row_below h.src hb⟩
/-- A block that is no cells, above all that stood at the call, turns. -/
theorem DecJ.put {w : World} {Nb B D N0 E : Nat} {aK : Option Addr} {m cK : Nat} {C : List Int} {r : Loop} {l : Nat} {ns : List (Int × ByteArray)} {W : World} {aN : Option Addr} {mN cN : Nat} (h : DecJ w Nb B D N0 E aK m cK C r l ns W aN mN cN) {k : Nat} {x : Obj} (hk : W.heap[k]? = some x) (hx : x.isCells = false) (o : Obj) (h0 : N0 ≤ k) (hn : Nb < N0) (hB : B < N0) (hD : D < N0) (hl : l < N0) (hw : w.heap.size ≤ N0) : DecJ w Nb B D N0 E aK m cK C r l ns (W.putObj k o) aN mN cN := by
  refine ⟨h.st.belowN (N := N0) (belowPut h0) ?_ (by intro y hy; simp at hy; omega) hl hw, h.row.put hk hx o, h.far, row_kept h.src (grownBy_putObj' W k o) (fun r e c hc => by cases e; rw [hk] at hc; cases hc; cases hx)⟩
  intro y hy
  simp only [decBx, List.mem_cons, List.not_mem_nil, or_false] at hy
  rcases hy with rfl | rfl <;> (simp only; omega)
/-- The loop's record turns. -/
theorem DecJ.turn {w : World} {Nb B D N0 E : Nat} {aK : Option Addr} {m cK : Nat} {C : List Int} {r : Loop} {l : Nat} {ns : List (Int × ByteArray)} {W : World} {aN : Option Addr} {mN cN : Nat} (h : DecJ w Nb B D N0 E aK m cK C r l ns W aN mN cN) (r' : Loop) : DecJ w Nb B D N0 E aK m cK C r' l ns (W.putObj l (.loop r')) aN mN cN :=
  ⟨h.st.put r', h.row.put h.st.loop rfl _, h.far, row_kept h.src (grownBy_putObj' W l _) (fun r e c hc => by cases e; rw [h.st.loop] at hc; cases hc)⟩
/-- The row has grown, and its box was written. -/
theorem DecJ.grow {w : World} {Nb B D N0 E : Nat} {aK : Option Addr} {m cK : Nat} {C : List Int} {r : Loop} {l : Nat} {ns ns' : List (Int × ByteArray)} {A X : World} {aN : Option Addr} {mN cN : Nat} (h : DecJ w Nb B D N0 E aK m cK C r l ns A aN mN cN) {g k c : Nat} (hg : A.grownBy X (Value.slice aN mN cN).ownBlock) (ho : OwnA X w.heap.size (.slice (some ⟨g, 0, none⟩) k c) ns') (hf : N0 + 4 ≤ g) : DecJ w Nb B D N0 E aK m cK C r l ns' (X.setCell ⟨Nb, 0, none⟩ (.slice (some ⟨g, 0, none⟩) k c)) (some ⟨g, 0, none⟩) k c := by
  have h1 := h.st.grownA h.row hg (by intro y hy; simp only [decBx, List.mem_cons, List.not_mem_nil, or_false] at hy; rcases hy with rfl | rfl; exact (by decide : (61 : TypeId) ≠ 111); exact (by decide : (64 : TypeId) ≠ 111))
  have hb := h1.st.get 0 (b := Nb) (t := 61) rfl
  refine ⟨h1.set 0 rfl _, ho.setBox hb (by decide) _, fun q hq => by simp [Value.ownBlock] at hq; omega, ?_⟩
  have h2 : OwnB X E (.slice aK m cK) C := row_apart h.src h.row (by decide) hg
  exact row_kept h2 (grownBy_setCell' X Nb _) (fun r e c hc => by cases e; rw [show X.heap[Nb]? = _ from hb] at hc; cases hc)

/-- Which blocks a round writes. -/
def SdN (Nb l : Nat) (v : Value) (q : Nat) : Prop := q = Nb ∨ q = l ∨ v.ownBlock = some q
theorem KJe.of {w : World} {Nb B D N0 E : Nat} {aK : Option Addr} {m cK : Nat} {C : List Int} {r : Loop} {l : Nat} {ns : List (Int × ByteArray)} {A Z : World} {aN : Option Addr} {mN cN : Nat} (h : DecJ w Nb B D N0 E aK m cK C r l ns A aN mN cN) (hg : GB (SdN Nb l (.slice aN mN cN)) A Z) (hz : N0 + 4 ≤ A.heap.size) (hn : Nb < N0) (hl : l < N0) : KJe N0 A Z := by
  have hb := h.st.st.get 0 (b := Nb) (t := 61) rfl
  refine ⟨fun k c hc => (hg.same k (Array.getElem?_eq_some_iff.1 hc).1 ?_).trans hc, fun k h1 h2 => hg.same k (by omega) ?_⟩
  · rintro (rfl | rfl | e)
    · rw [show A.heap[k]? = _ from hb] at hc; cases hc
    · rw [h.st.loop] at hc; cases hc
    · obtain ⟨c', h3⟩ := row_type h.row k e
      rw [hc] at h3
      cases h3
  · rintro (rfl | rfl | e)
    · omega
    · omega
    · have := h.far k e; omega

set_option maxRecDepth 100000 in
theorem decN_leave (w W : World) (tmps : Array Value) (D : Nat) (bx : List (Nat × TypeId × Value)) (h : BSt w bx [D] W) (a : Option Addr) (m c : Nat) (er : Int) (ns : List (Int × ByteArray)) (ho : OwnA W w.heap.size (.slice a m c) ns) (h2 : tmps[2]? = some (.slice a m c)) (h3 : tmps[3]? = some (.int .i64 er)) :
    LeavesInM Fence.wide 8 Tryz.prog Tryz.f86 tmps (fun e w' => ∃ a m c, e = .returned (.tuple #[.slice a m c, .int .i64 er]) ∧ OwnA w' w.heap.size (.slice a m c) ns ∧ Below w.heap.size w w') [{ target := .collected D, args := #[] }] .returning W := by
  have h1 := (h.dfr D (by simp)).2
  have h5 := h.take (by simp)
  refine ⟨by simp, .inl ⟨_, _, rfl, run_takeDeferred h1, ?_⟩⟩
  exact ⟨.tuple #[.slice a m c, .int .i64 er], by simp [results, Tryz.results86, go_sem, h2, h3, Array.getD_eq_getD_getElem?], a, m, c, rfl, ho.put h1 rfl _, h5.bel⟩

end Go.Proofs.YtklchpdpooikdaaGreatDoor
