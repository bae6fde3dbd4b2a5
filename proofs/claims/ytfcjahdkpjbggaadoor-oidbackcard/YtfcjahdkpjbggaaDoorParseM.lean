/-
  A text and the arcs that it is read as: what is read of a text is written as it was, and what is written is read as it was; the document's reading, digit by digit, comes to the same. Plain.
-/
import Derived.Test.YtfcjahdkpjbggaaDoorParseS
import Derived.Test.YtfcjahdkpjbggaaDoorRTxt
namespace Go.Proofs.YtfcjahdkpjbggaaDoor
open Go.RowKit

/-- The decimal digits of a number. -/
def decN (n : Nat) : List Int := (Lib.decDigits n).map (fun b => (b.toNat : Int))

theorem decN_one (n : Nat) (h : n < 10) : decN n = [48 + (n : Int)] := by
  unfold decN
  rw [Lib.decDigits_one h]
  simp
  omega

theorem decN_step (n : Nat) (h : ¬ n < 10) : decN n = decN (n / 10) ++ [48 + ((n % 10 : Nat) : Int)] := by
  unfold decN
  rw [dec_step n h, List.map_append]
  congr 1
  simp
  omega

theorem decN_ne : ∀ (f n : Nat), n ≤ f → decN n ≠ [] ∧ (1 ≤ n → (decN n).head? ≠ some 48) ∧ (∀ c ∈ decN n, 48 ≤ c ∧ c ≤ 57)
  | f, n, hf => by
    by_cases h : n < 10
    · rw [decN_one n h]
      refine ⟨by simp, fun h1 => by simp; omega, fun c hc => ?_⟩
      simp at hc
      omega
    · cases f with
      | zero => omega
      | succ f =>
        obtain ⟨h1, h2, h3⟩ := decN_ne f (n / 10) (by omega)
        rw [decN_step n h]
        refine ⟨by simp, fun _ => ?_, fun c hc => ?_⟩
        · have h4 := h2 (by omega)
          cases hd : decN (n / 10) with
          | nil => exact absurd hd h1
          | cons x r => rw [hd] at h4; simpa using h4
        · rcases List.mem_append.1 hc with hc | hc
          · exact h3 c hc
          · simp at hc; omega

theorem digGo_cat : ∀ (a b : List Int) (m : Int), digGo m (a ++ b) = (digGo m a).bind (fun k => digGo k b)
  | [], b, m => rfl
  | c :: a, b, m => by
    rw [List.cons_append, digGo, digGo]
    split
    · rfl
    · split
      · rfl
      · exact digGo_cat a b _

/-- The digits of a number are read as that number. -/
theorem digGo_dec : ∀ (f n : Nat), n ≤ f → n ≤ 2147483647 → digGo 0 (decN n) = some (n : Int)
  | f, n, hf, hm => by
    by_cases h : n < 10
    · rw [decN_one n h]
      simp only [digGo]
      rw [if_neg (by omega), if_neg (by omega)]
      congr 1
      omega
    · cases f with
      | zero => omega
      | succ f =>
        rw [decN_step n h, digGo_cat, digGo_dec f (n / 10) (by omega) (by omega)]
        simp only [Option.bind_some, digGo]
        rw [if_neg (by omega), if_neg (by omega)]
        congr 1
        omega

theorem arcT_dec (n : Nat) (hm : n ≤ 2147483647) : arcT (decN n) = some (n : Int) := by
  obtain ⟨h1, h2, _⟩ := decN_ne n n (Nat.le_refl _)
  unfold arcT
  rw [if_neg, digGo_dec n n (Nat.le_refl _) hm]
  rintro (h | ⟨h, h3⟩)
  · exact h1 h
  · rcases Nat.eq_zero_or_pos n with rfl | hn
    · exact h3 (by rw [decN_one 0 (by omega)]; rfl)
    · exact h2 hn h

/-- What is read as a number are its digits. -/
theorem dec_digGo : ∀ (f : Nat) (l : List Int) (N : Int), l.length ≤ f → l ≠ [] → (l.head? = some 48 → l = [48]) → digGo 0 l = some N → ∃ n : Nat, N = (n : Int) ∧ decN n = l
  | 0, l, _, hf, hne, _, _ => by
    have : l = [] := List.eq_nil_of_length_eq_zero (by omega)
    exact absurd this hne
  | f + 1, l, N, hf, hne, h0, hd => by
    obtain ⟨a, c, rfl⟩ : ∃ a c, l = a ++ [c] := ⟨l.dropLast, l.getLast hne, (List.dropLast_concat_getLast hne).symm⟩
    rw [digGo_cat] at hd
    cases ha : a with
    | nil =>
      subst ha
      simp only [digGo, Option.bind_some] at hd
      split at hd
      · cases hd
      · split at hd
        · cases hd
        · rename_i g1 g2
          have hd := Option.some.inj hd
          refine ⟨(c - 48).toNat, by omega, ?_⟩
          rw [decN_one _ (by omega)]
          simp
          omega
    | cons x r =>
      have hah : (a ++ [c]).head? = some x := by rw [ha]; rfl
      have hx : x ≠ 48 := by
        intro e
        rw [hah, e] at h0
        have h1 := congrArg List.length (h0 rfl)
        rw [ha] at h1
        simp at h1
      cases hm : digGo 0 a with
      | none => rw [hm] at hd; cases hd
      | some M =>
        rw [hm] at hd
        simp only [Option.bind_some, digGo] at hd
        obtain ⟨m, rfl, hdm⟩ := dec_digGo f a M (by rw [List.length_append] at hf; simp at hf; omega) (by rw [ha]; simp) (fun h => by rw [ha] at h; simp at h; exact absurd h hx) hm
        split at hd
        · cases hd
        · split at hd
          · cases hd
          · rename_i g1 g2
            have hd := Option.some.inj hd
            have hm1 : 1 ≤ m := by
              rcases Nat.eq_zero_or_pos m with rfl | h
              · rw [decN_one 0 (by omega), ha] at hdm
                have := (List.cons.inj hdm).1
                exact absurd this.symm hx
              · exact h
            refine ⟨m * 10 + (c - 48).toNat, by omega, ?_⟩
            rw [decN_step _ (by omega)]
            have e1 : (m * 10 + (c - 48).toNat) / 10 = m := by omega
            have e2 : (m * 10 + (c - 48).toNat) % 10 = (c - 48).toNat := by omega
            have e3 : (48 : Int) + (((c - 48).toNat : Nat) : Int) = c := by omega
            rw [e1, e2, hdm, e3, ha]

theorem dec_arcT (l : List Int) (N : Int) (h : arcT l = some N) : ∃ n : Nat, N = (n : Int) ∧ decN n = l := by
  unfold arcT at h
  split at h
  · cases h
  · rename_i hn
    refine dec_digGo l.length l N (Nat.le_refl _) (fun e => hn (.inl e)) (fun e => ?_) h
    by_cases h2 : l = [48]
    · exact h2
    · exact absurd (.inr ⟨e, h2⟩) hn

/-- A text of arcs. -/
def txtI : List Int → List Int
  | [] => []
  | [x] => decN x.toNat
  | x :: y :: r => decN x.toNat ++ 46 :: txtI (y :: r)

theorem cutI_cat : ∀ xs : List Int, ((cutI xs).2.2 = true → xs = (cutI xs).1 ++ 46 :: (cutI xs).2.1) ∧ ((cutI xs).2.2 = false → xs = (cutI xs).1)
  | [] => by simp [cutI]
  | c :: r => by
    have ih := cutI_cat r
    rw [cutI]
    split
    · rename_i h; subst h; simp
    · refine ⟨fun h => ?_, fun h => ?_⟩
      · show c :: r = c :: (_ ++ _)
        rw [← ih.1 h]
      · show c :: r = c :: _
        rw [← ih.2 h]

theorem cutI_pure : ∀ (a b : List Int), (∀ c ∈ a, c ≠ 46) → cutI (a ++ 46 :: b) = (a, b, true) ∧ cutI a = (a, [], false)
  | [], b, _ => by simp [cutI]
  | c :: a, b, h => by
    obtain ⟨h1, h2⟩ := cutI_pure a b (fun x hx => h x (List.mem_cons_of_mem _ hx))
    have hc := h c (by simp)
    rw [List.cons_append, cutI, cutI, if_neg hc, if_neg hc, h1, h2]
    exact ⟨rfl, rfl⟩

theorem decN_pure (n : Nat) : ∀ c ∈ decN n, c ≠ 46 := fun c hc => by have := (decN_ne n n (Nat.le_refl _)).2.2 c hc; omega

/-- What is written is read as it was. -/
theorem arcsT_txt : ∀ (l : List Int), l ≠ [] → (∀ x ∈ l, 0 ≤ x ∧ x ≤ 2147483647) → arcsT (txtI l) = some l
  | [], h, _ => absurd rfl h
  | [x], _, hx => by
    have h1 := hx x (by simp)
    obtain ⟨_, hc⟩ := cutI_pure (decN x.toNat) [] (decN_pure _)
    have ha := arcT_dec x.toNat (by omega)
    have e : ((x.toNat : Nat) : Int) = x := by omega
    rw [e] at ha
    rw [txtI, arcsT_last _ x (by rw [hc]; exact ha) (by rw [hc])]
  | x :: y :: r, _, hx => by
    have h1 := hx x (by simp)
    obtain ⟨hc, _⟩ := cutI_pure (decN x.toNat) (txtI (y :: r)) (decN_pure _)
    have ha := arcT_dec x.toNat (by omega)
    have e : ((x.toNat : Nat) : Int) = x := by omega
    rw [e] at ha
    rw [txtI, arcsT_more _ x (by rw [hc]; exact ha) (by rw [hc]), hc, arcsT_txt (y :: r) (by simp) (fun z hz => hx z (List.mem_cons_of_mem _ hz))]
    rfl

/-- What is read is written as it was. -/
theorem txt_arcsT : ∀ (f : Nat) (ys l : List Int), ys.length < f → arcsT ys = some l → l ≠ [] ∧ txtI l = ys ∧ ∀ x ∈ l, 0 ≤ x ∧ x ≤ 2147483647
  | 0, _, _, hf, _ => by omega
  | f + 1, ys, l, hf, h => by
    cases ha : arcT (cutI ys).1 with
    | none => rw [arcsT_none ys ha] at h; cases h
    | some N =>
      obtain ⟨n, rfl, hdn⟩ := dec_arcT _ N ha
      have hin := arcT_in _ _ ha
      obtain ⟨c1, c2⟩ := cutI_cat ys
      cases hb : (cutI ys).2.2 with
      | false =>
        rw [arcsT_last ys _ ha hb] at h
        have h := Option.some.inj h
        subst h
        refine ⟨by simp, ?_, fun x hx => by simp at hx; subst hx; exact hin⟩
        rw [txtI, c2 hb]
        simpa using hdn
      | true =>
        rw [arcsT_more ys _ ha hb] at h
        have hlt := (cutI_len ys).2.1 hb
        cases hr : arcsT (cutI ys).2.1 with
        | none => rw [hr] at h; cases h
        | some l' =>
          rw [hr] at h
          have h := Option.some.inj h
          subst h
          obtain ⟨i1, i2, i3⟩ := txt_arcsT f _ l' (by omega) hr
          refine ⟨by simp, ?_, fun x hx => ?_⟩
          · cases l' with
            | nil => exact absurd rfl i1
            | cons y r =>
              have e : decN ((n : Int)).toNat = (cutI ys).1 := by simpa using hdn
              rw [txtI, i2, e]
              exact (c1 hb).symm
          · rcases List.mem_cons.1 hx with rfl | hx
            · exact hin
            · exact i3 x hx

/-- The document's reading of a text, digit by digit. -/
def scanI (pre : List Int) (cur : Int) : List Int → Option (List Int)
  | [] => some (pre ++ [cur])
  | c :: r => if c = 46 then (if pre.length + 1 = 20 then none else scanI (pre ++ [cur]) 0 r) else if 48 ≤ c ∧ c ≤ 57 then (if 2147483647 < 10 * cur + (c - 48) then none else scanI pre (10 * cur + (c - 48)) r) else none

theorem scan_part : ∀ (a r pre : List Int) (cur N : Int), digGo cur a = some N → scanI pre cur (a ++ r) = scanI pre N r
  | [], r, pre, cur, N, h => by simp [digGo] at h; subst h; rfl
  | c :: a, r, pre, cur, N, h => by
    rw [digGo] at h
    split at h
    · cases h
    · split at h
      · cases h
      · rename_i g1 g2
        have e : 10 * cur + (c - 48) = cur * 10 + (c - 48) := by omega
        rw [List.cons_append, scanI, if_neg (by omega), if_pos (by omega), e, if_neg g2]
        exact scan_part a r pre _ N h

theorem scan_arcs : ∀ (f : Nat) (ys l pre : List Int), ys.length < f → arcsT ys = some l → pre.length + l.length ≤ 20 → scanI pre 0 ys = some (pre ++ l)
  | 0, _, _, _, hf, _, _ => by omega
  | f + 1, ys, l, pre, hf, h, hl => by
    cases ha : arcT (cutI ys).1 with
    | none => rw [arcsT_none ys ha] at h; cases h
    | some N =>
      have hd : digGo 0 (cutI ys).1 = some N := by
        unfold arcT at ha
        split at ha
        · cases ha
        · exact ha
      obtain ⟨c1, c2⟩ := cutI_cat ys
      cases hb : (cutI ys).2.2 with
      | false =>
        rw [arcsT_last ys _ ha hb] at h
        have h := Option.some.inj h
        subst h
        have h3 := scan_part (cutI ys).1 [] pre 0 N hd
        rw [List.append_nil, ← c2 hb] at h3
        rw [h3]
        rfl
      | true =>
        rw [arcsT_more ys _ ha hb] at h
        have hlt := (cutI_len ys).2.1 hb
        cases hr : arcsT (cutI ys).2.1 with
        | none => rw [hr] at h; cases h
        | some l' =>
          rw [hr] at h
          have h := Option.some.inj h
          subst h
          have hne := (txt_arcsT (ys.length + 1) _ l' (by omega) hr).1
          have hl1 : 1 ≤ l'.length := by
            cases l' with
            | nil => exact absurd rfl hne
            | cons _ _ => simp
          have h3 := scan_part (cutI ys).1 (46 :: (cutI ys).2.1) pre 0 N hd
          rw [← c1 hb] at h3
          simp only [List.length_cons] at hl
          rw [h3, scanI, if_pos rfl, if_neg (by omega), scan_arcs f _ l' (pre ++ [N]) (by omega) hr (by simp; omega)]
          simp

/-- What the document reads of a text. -/
def scanS (xs : List Int) : List Int × Int := match scanI [] 0 xs with
  | some l => if mayS l = true ∧ txtI l = xs then (l, 0) else ([], 33)
  | none => ([], 33)

theorem scan_parse (xs : List Int) : scanS xs = parseS xs := by
  cases ha : arcsT xs with
  | some l =>
    obtain ⟨h1, h2, h3⟩ := txt_arcsT (xs.length + 1) xs l (by omega) ha
    rw [parseS_of xs l ha]
    by_cases hm : mayS l = true
    · rw [if_pos hm]
      have hl : l.length ≤ 20 := (may_parts hm).2.1
      unfold scanS
      rw [scan_arcs (xs.length + 1) xs l [] (by omega) ha (by simpa using hl)]
      simp [hm, h2]
    · rw [if_neg hm]
      unfold scanS
      split
      · rename_i A hA
        split
        · rename_i hx
          have hr := arcsT_txt A (by intro e; subst e; simp [mayS] at hx) (may_parts hx.1).2.2.1
          rw [hx.2, ha] at hr
          have hr := Option.some.inj hr
          subst hr
          exact absurd hx.1 hm
        · rfl
      · rfl
  | none =>
    have hp : parseS xs = ([], 33) := by unfold parseS; rw [ha]
    rw [hp]
    unfold scanS
    split
    · rename_i A hA
      split
      · rename_i hx
        have hr := arcsT_txt A (by intro e; subst e; simp [mayS] at hx) (may_parts hx.1).2.2.1
        rw [hx.2, ha] at hr
        cases hr
      · rfl
    · rfl

/-- The text of arcs that may be, as the program and the document write it. -/
theorem txtL_nums : ∀ (l : List Int), (∀ x ∈ l, 0 ≤ x) → (txtL l).map (fun b => (b.toNat : Int)) = txtI l
  | [], _ => rfl
  | [x], h => by
    rw [txtL_cons, txtI, itoa_dec x (h x (by simp))]
    simp [Lib.joinTail, decN]
  | x :: y :: r, h => by
    have ih := txtL_nums (y :: r) (fun z hz => h z (List.mem_cons_of_mem _ hz))
    rw [txtL_cons] at ih ⊢
    rw [txtI, ← ih, itoa_dec x (h x (by simp))]
    simp [Lib.joinTail, decN]

theorem txtC_of (l xs : List Int) (hb : ∀ x ∈ xs, 0 ≤ x ∧ x < 256) (hm : mayS l = true) : txtC l = strOfNums xs ↔ txtI l = xs := by
  have hl := txtL_nums l (fun x hx => ((may_parts hm).2.2.1 x hx).1)
  unfold txtC
  rw [if_pos hm, ← hl]
  constructor
  · intro e
    have e2 := congrArg (fun b : ByteArray => b.data.toList) e
    simp only [strOfNums_data] at e2
    rw [e2, List.map_map]
    conv => rhs; rw [← List.map_id xs]
    apply List.map_congr_left
    intro x hx
    have := hb x hx
    simp
    omega
  · intro e
    apply ByteArray.ext
    apply Array.ext'
    rw [strOfNums_data, ← e, List.map_map]
    conv => lhs; rw [show (⟨(txtL l).toArray⟩ : ByteArray).data.toList = txtL l from rfl, ← List.map_id (txtL l)]
    apply List.map_congr_left
    intro b _
    simp

end Go.Proofs.YtfcjahdkpjbggaaDoor
