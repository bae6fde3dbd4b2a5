/-
  The digest by its definition: words of a block, rounds, blocks, the padded text. No program.
-/
import Derived.Test.YtgajejomibnghaaDoorSaWord
namespace Go.Proofs.YtgajejomibnghaaDoor
open Go.RowKit Go.IntWalk

def sg0 (x : Int) : Int := bits .xor .u32 (bits .xor .u32 (ror x 7) (ror x 18)) (x / 8)
def sg1 (x : Int) : Int := bits .xor .u32 (bits .xor .u32 (ror x 17) (ror x 19)) (x / 1024)

/-- The word behind t words. -/
def nextW (l : List Int) : Int := (l.getD (l.length - 16) 0 + sg0 (l.getD (l.length - 15) 0) + l.getD (l.length - 7) 0 + sg1 (l.getD (l.length - 2) 0)) % 4294967296
def ext (l : List Int) : Nat → List Int
  | 0 => l
  | n + 1 => ext l n ++ [nextW (ext l n)]
def wordOf (b : List Int) (t : Nat) : Int := w4 (b.getD (4 * t) 0) (b.getD (4 * t + 1) 0) (b.getD (4 * t + 2) 0) (b.getD (4 * t + 3) 0)
def own16 (b : List Int) : List Int := (List.range 16).map (wordOf b)
/-- w0 to w63. -/
def sched (b : List Int) : List Int := ext (own16 b) 48

theorem ext_len (l : List Int) : ∀ n, (ext l n).length = l.length + n
  | 0 => rfl
  | n + 1 => by rw [ext, List.length_append, ext_len l n]; simp; omega

theorem own_len (b : List Int) : (own16 b).length = 16 := by simp [own16]
theorem sched_len (b : List Int) : (sched b).length = 64 := by rw [sched, ext_len, own_len]

theorem nextW_bd (l : List Int) : 0 ≤ nextW l ∧ nextW l < 4294967296 := by unfold nextW; omega

theorem ext_dg {l : List Int} (h : Dg 4294967296 l) : ∀ n, Dg 4294967296 (ext l n)
  | 0 => h
  | n + 1 => by
    intro x hx
    rw [ext, List.mem_append] at hx
    rcases hx with hx | hx
    · exact ext_dg h n x hx
    · simp at hx
      subst hx
      exact nextW_bd _

theorem dg_at {B : Int} {l : List Int} (h : Dg B l) (hB : 0 < B) (i : Nat) : 0 ≤ l.getD i 0 ∧ l.getD i 0 < B := h.at hB i

theorem wordOf_bd {b : List Int} (h : Dg 256 b) (t : Nat) : 0 ≤ wordOf b t ∧ wordOf b t < 4294967296 :=
  w4_bd (h.at (by decide) _) (h.at (by decide) _) (h.at (by decide) _) (h.at (by decide) _)

theorem own_dg {b : List Int} (h : Dg 256 b) : Dg 4294967296 (own16 b) := by
  intro x hx
  simp [own16] at hx
  obtain ⟨t, _, rfl⟩ := hx
  exact wordOf_bd h t

theorem sched_dg {b : List Int} (h : Dg 256 b) : Dg 4294967296 (sched b) := ext_dg (own_dg h) 48

/-- The eight words of a round. -/
structure S8 where
  a : Int
  b : Int
  c : Int
  d : Int
  e : Int
  f : Int
  g : Int
  h : Int

def pOf (s : S8) (k w : Int) : Int := (s.h + bits .xor .u32 (bits .xor .u32 (ror s.e 6) (ror s.e 11)) (ror s.e 25) + bits .xor .u32 (bits .and .u32 s.e s.f) (bits .and .u32 (bits .xor .u32 4294967295 s.e) s.g) + k + w) % 4294967296
def qOf (s : S8) : Int := (bits .xor .u32 (bits .xor .u32 (ror s.a 2) (ror s.a 13)) (ror s.a 22) + bits .xor .u32 (bits .xor .u32 (bits .and .u32 s.a s.b) (bits .and .u32 s.a s.c)) (bits .and .u32 s.b s.c)) % 4294967296
def rnd (k w : Int) (s : S8) : S8 := ⟨(pOf s k w + qOf s) % 4294967296, s.a, s.b, s.c, (s.d + pOf s k w) % 4294967296, s.e, s.f, s.g⟩

structure S8.Ok (s : S8) : Prop where
  a : 0 ≤ s.a ∧ s.a < 4294967296
  b : 0 ≤ s.b ∧ s.b < 4294967296
  c : 0 ≤ s.c ∧ s.c < 4294967296
  d : 0 ≤ s.d ∧ s.d < 4294967296
  e : 0 ≤ s.e ∧ s.e < 4294967296
  f : 0 ≤ s.f ∧ s.f < 4294967296
  g : 0 ≤ s.g ∧ s.g < 4294967296
  h : 0 ≤ s.h ∧ s.h < 4294967296

theorem pOf_bd (s : S8) (k w : Int) : 0 ≤ pOf s k w ∧ pOf s k w < 4294967296 := by unfold pOf; omega
theorem qOf_bd (s : S8) : 0 ≤ qOf s ∧ qOf s < 4294967296 := by unfold qOf; omega

theorem rnd_ok {s : S8} (h : s.Ok) (k w : Int) : (rnd k w s).Ok :=
  ⟨by show 0 ≤ (pOf s k w + qOf s) % 4294967296 ∧ (pOf s k w + qOf s) % 4294967296 < 4294967296; omega, h.a, h.b, h.c, by show 0 ≤ (s.d + pOf s k w) % 4294967296 ∧ (s.d + pOf s k w) % 4294967296 < 4294967296; omega, h.e, h.f, h.g⟩

/-- t rounds. -/
def rnds (ks ws : List Int) (s : S8) : Nat → S8
  | 0 => s
  | t + 1 => rnd (ks.getD t 0) (ws.getD t 0) (rnds ks ws s t)

theorem rnds_ok {s : S8} (h : s.Ok) (ks ws : List Int) : ∀ t, (rnds ks ws s t).Ok
  | 0 => h
  | t + 1 => rnd_ok (rnds_ok h ks ws t) _ _

/-- The constants. -/
def kL : List Int := [
  1116352408, 1899447441, 3049323471, 3921009573, 961987163, 1508970993, 2453635748, 2870763221,
  3624381080, 310598401, 607225278, 1426881987, 1925078388, 2162078206, 2614888103, 3248222580,
  3835390401, 4022224774, 264347078, 604807628, 770255983, 1249150122, 1555081692, 1996064986,
  2554220882, 2821834349, 2952996808, 3210313671, 3336571891, 3584528711, 113926993, 338241895,
  666307205, 773529912, 1294757372, 1396182291, 1695183700, 1986661051, 2177026350, 2456956037,
  2730485921, 2820302411, 3259730800, 3345764771, 3516065817, 3600352804, 4094571909, 275423344,
  430227734, 506948616, 659060556, 883997877, 958139571, 1322822218, 1537002063, 1747873779,
  1955562222, 2024104815, 2227730452, 2361852424, 2428436474, 2756734187, 3204031479, 3329325298]
def hL : List Int := [1779033703, 3144134277, 1013904242, 2773480762, 1359893119, 2600822924, 528734635, 1541459225]

def s8 (h : List Int) : S8 := ⟨h.getD 0 0, h.getD 1 0, h.getD 2 0, h.getD 3 0, h.getD 4 0, h.getD 5 0, h.getD 6 0, h.getD 7 0⟩
def S8.list (s : S8) : List Int := [s.a, s.b, s.c, s.d, s.e, s.f, s.g, s.h]
def add8 (h : List Int) (s : S8) : List Int := [(h.getD 0 0 + s.a) % 4294967296, (h.getD 1 0 + s.b) % 4294967296, (h.getD 2 0 + s.c) % 4294967296, (h.getD 3 0 + s.d) % 4294967296, (h.getD 4 0 + s.e) % 4294967296, (h.getD 5 0 + s.f) % 4294967296, (h.getD 6 0 + s.g) % 4294967296, (h.getD 7 0 + s.h) % 4294967296]

/-- What a block makes of eight words. -/
def mix (h b : List Int) : List Int := add8 h (rnds kL (sched b) (s8 h) 64)

theorem mix_len (h b : List Int) : (mix h b).length = 8 := rfl
theorem mix_dg (h b : List Int) : Dg 4294967296 (mix h b) := by
  intro x hx
  simp [mix, add8] at hx
  omega

theorem s8_ok {h : List Int} (hd : Dg 4294967296 h) : (s8 h).Ok :=
  ⟨hd.at (by decide) 0, hd.at (by decide) 1, hd.at (by decide) 2, hd.at (by decide) 3, hd.at (by decide) 4, hd.at (by decide) 5, hd.at (by decide) 6, hd.at (by decide) 7⟩

/-- The words behind k blocks of a text. -/
def stN (xs : List Int) : Nat → List Int
  | 0 => hL
  | k + 1 => mix (stN xs k) ((xs.drop (64 * k)).take 64)
def st (xs : List Int) : List Int := stN xs (xs.length / 64)

theorem hL_dg : Dg 4294967296 hL := by intro x hx; simp [hL] at hx; omega
theorem stN_len (xs : List Int) : ∀ k, (stN xs k).length = 8
  | 0 => rfl
  | _ + 1 => mix_len _ _
theorem stN_dg (xs : List Int) : ∀ k, Dg 4294967296 (stN xs k)
  | 0 => hL_dg
  | _ + 1 => mix_dg _ _

theorem stN_app (xs ys : List Int) : ∀ k, 64 * k ≤ xs.length → stN (xs ++ ys) k = stN xs k
  | 0, _ => rfl
  | k + 1, h => by
    rw [stN, stN, stN_app xs ys k (by omega)]
    congr 1
    rw [List.drop_append_of_le_length (by omega), List.take_append_of_le_length (by simp; omega)]

/-- More bytes that end no block. -/
theorem st_same (xs ys : List Int) (h : (xs.length + ys.length) / 64 = xs.length / 64) : st (xs ++ ys) = st xs := by
  unfold st
  rw [List.length_append, h, stN_app _ _ _ (by omega)]

/-- More bytes that end a block. -/
theorem st_next (xs ys : List Int) (h : (xs.length + ys.length) % 64 = 0) (h1 : ys ≠ []) (h2 : ys.length ≤ 64 - xs.length % 64) : st (xs ++ ys) = mix (st xs) (xs.drop (64 * (xs.length / 64)) ++ ys) := by
  have hy : 0 < ys.length := by cases ys with | nil => exact absurd rfl h1 | cons a r => simp
  have e : (xs ++ ys).length / 64 = xs.length / 64 + 1 := by rw [List.length_append]; omega
  unfold st
  rw [e, stN, stN_app _ _ _ (by omega)]
  congr 1
  rw [List.drop_append_of_le_length (by omega), List.take_of_length_le (by simp; omega)]

/-- What is behind the whole blocks. -/
def tail (xs : List Int) : List Int := xs.drop (64 * (xs.length / 64))
theorem tail_len (xs : List Int) : (tail xs).length = xs.length % 64 := by simp [tail]; omega

theorem tail_same (xs ys : List Int) (h : (xs.length + ys.length) / 64 = xs.length / 64) : tail (xs ++ ys) = tail xs ++ ys := by
  unfold tail
  rw [List.length_append, h, List.drop_append_of_le_length (by omega)]

theorem tail_zero (xs : List Int) (h : xs.length % 64 = 0) : tail xs = [] := List.eq_nil_of_length_eq_zero (by rw [tail_len, h])

/-- What stands behind a text of n bytes. -/
def zerosN (n : Nat) : Nat := (119 - n % 64) % 64
def pad (n : Nat) : List Int := 128 :: List.replicate (zerosN n) 0 ++ [(8 * n : Int) / 72057594037927936 % 256, (8 * n : Int) / 281474976710656 % 256, (8 * n : Int) / 1099511627776 % 256, (8 * n : Int) / 4294967296 % 256, (8 * n : Int) / 16777216 % 256, (8 * n : Int) / 65536 % 256, (8 * n : Int) / 256 % 256, (8 * n : Int) % 256]

theorem pad_len (n : Nat) : (pad n).length = 9 + zerosN n := by simp [pad]; omega
theorem pad_whole (n : Nat) : (n + (pad n).length) % 64 = 0 := by rw [pad_len]; unfold zerosN; omega
theorem pad_dg (n : Nat) : Dg 256 (pad n) := by
  intro x hx
  simp [pad] at hx
  omega

def bytes4 (x : Int) : List Int := [x / 16777216, x / 65536 % 256, x / 256 % 256, x % 256]
/-- The digest. -/
def dig (xs : List Int) : List Int := (st (xs ++ pad xs.length)).flatMap bytes4

theorem bytes4_len (x : Int) : (bytes4 x).length = 4 := rfl
theorem flat_len (l : List Int) : (l.flatMap bytes4).length = 4 * l.length := by
  induction l with
  | nil => rfl
  | cons a r ih => rw [List.flatMap_cons, List.length_append, ih, bytes4_len, List.length_cons]; omega
theorem dig_len (xs : List Int) : (dig xs).length = 32 := by rw [dig, flat_len]; unfold st; rw [stN_len]
theorem bytes4_dg {x : Int} (h : 0 ≤ x ∧ x < 4294967296) : Dg 256 (bytes4 x) := by
  intro y hy
  simp [bytes4] at hy
  omega
theorem dig_dg (xs : List Int) : Dg 256 (dig xs) := by
  intro y hy
  rw [dig, List.mem_flatMap] at hy
  obtain ⟨x, hx, hy⟩ := hy
  exact bytes4_dg (stN_dg _ _ x hx) y hy

/-- A key's block, each byte xored. -/
def keyOf (key : List Int) : List Int := let k := if key.length > 64 then dig key else key; k ++ List.replicate (64 - k.length) 0
def mask (m : Int) (l : List Int) : List Int := l.map fun x => bits .xor .u8 x m
/-- The keyed digest. -/
def macD (key xs : List Int) : List Int := dig (mask 92 (keyOf key) ++ dig (mask 54 (keyOf key) ++ xs))

theorem keyOf_len (key : List Int) : (keyOf key).length = 64 := by
  unfold keyOf
  simp only []
  split
  · simp [dig_len]
  · simp; omega
theorem mask_len (m : Int) (l : List Int) : (mask m l).length = l.length := by simp [mask]

end Go.Proofs.YtgajejomibnghaaDoor
