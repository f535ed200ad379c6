/- Plain mathematics of chapter 21, over no dump: words of 32 bits, a block, a digest. -/
import Derived.WalkKit
import Derived.Laws.BitsAllLaws
import Derived.PlainAid
namespace Go.Proofs.YthpkhbcahihbnaaDoor
open Go.RowKit Go.PlainAid

/-- A word turned right. -/
def rotr (x n : Nat) : Nat := x / 2 ^ n ||| x * 2 ^ (32 - n) % 4294967296
theorem or_lt32 {a b : Nat} (ha : a < 4294967296) (hb : b < 4294967296) : a ||| b < 4294967296 := Nat.or_lt_two_pow (n := 32) ha hb
theorem and_lt32 {a b : Nat} (hb : b < 4294967296) : a &&& b < 4294967296 := Nat.and_lt_two_pow (n := 32) _ hb
theorem xorLt32 {a b : Nat} (ha : a < 4294967296) (hb : b < 4294967296) : a ^^^ b < 4294967296 := Nat.xor_lt_two_pow (n := 32) ha hb
theorem div_lt32 {a : Nat} (ha : a < 4294967296) (n : Nat) : a / n < 4294967296 := Nat.lt_of_le_of_lt (Nat.div_le_self _ _) ha
theorem rotr_lt {x : Nat} (hx : x < 4294967296) (n : Nat) : rotr x n < 4294967296 := or_lt32 (div_lt32 hx _) (Nat.mod_lt _ (by omega))

def mixA (x : Nat) : Nat := rotr x 7 ^^^ rotr x 18 ^^^ x / 8
def mixB (x : Nat) : Nat := rotr x 17 ^^^ rotr x 19 ^^^ x / 1024
def bigA (x : Nat) : Nat := rotr x 2 ^^^ rotr x 13 ^^^ rotr x 22
def bigE (x : Nat) : Nat := rotr x 6 ^^^ rotr x 11 ^^^ rotr x 25
def choose (e f g : Nat) : Nat := (e &&& f) ^^^ ((e ^^^ 4294967295) &&& g)
def most (a b c : Nat) : Nat := (a &&& b) ^^^ (a &&& c) ^^^ (b &&& c)
theorem mixA_lt {x : Nat} (h : x < 4294967296) : mixA x < 4294967296 := xorLt32 (xorLt32 (rotr_lt h _) (rotr_lt h _)) (div_lt32 h _)
theorem mixB_lt {x : Nat} (h : x < 4294967296) : mixB x < 4294967296 := xorLt32 (xorLt32 (rotr_lt h _) (rotr_lt h _)) (div_lt32 h _)
theorem bigA_lt {x : Nat} (h : x < 4294967296) : bigA x < 4294967296 := xorLt32 (xorLt32 (rotr_lt h _) (rotr_lt h _)) (rotr_lt h _)
theorem bigE_lt {x : Nat} (h : x < 4294967296) : bigE x < 4294967296 := xorLt32 (xorLt32 (rotr_lt h _) (rotr_lt h _)) (rotr_lt h _)
theorem choose_lt {e f g : Nat} (hf : f < 4294967296) (hg : g < 4294967296) : choose e f g < 4294967296 := xorLt32 (and_lt32 hf) (and_lt32 hg)
theorem most_lt {a b c : Nat} (hb : b < 4294967296) (hc : c < 4294967296) : most a b c < 4294967296 := xorLt32 (xorLt32 (and_lt32 hb) (and_lt32 hc)) (and_lt32 hc)

/-- The word behind sixteen that stand ahead of it. -/
def nextW (l : List Nat) (i : Nat) : Nat := (l.getD (i - 16) 0 + mixA (l.getD (i - 15) 0) + l.getD (i - 7) 0 + mixB (l.getD (i - 2) 0)) % 4294967296
/-- The words of a block: its sixteen, and n more. -/
def sched (ws : List Nat) : Nat → List Nat
  | 0 => ws
  | n + 1 => sched ws n ++ [nextW (sched ws n) (16 + n)]
theorem sched_len {ws : List Nat} (h : ws.length = 16) : ∀ n, (sched ws n).length = 16 + n
  | 0 => h
  | n + 1 => by rw [sched, List.length_append, sched_len h n]; rfl
theorem nextW_lt (l : List Nat) (i : Nat) : nextW l i < 4294967296 := Nat.mod_lt _ (by omega)
theorem sched_lt {ws : List Nat} (h : ∀ x ∈ ws, x < 4294967296) : ∀ n, ∀ x ∈ sched ws n, x < 4294967296
  | 0 => h
  | n + 1 => by
    intro x hx
    rw [sched, List.mem_append] at hx
    rcases hx with hx | hx
    · exact sched_lt h n x hx
    · rw [List.mem_singleton] at hx; subst hx; exact nextW_lt _ _
theorem getD_app_left {l r : List Nat} {i : Nat} (h : i < l.length) : (l ++ r).getD i 0 = l.getD i 0 := by
  simp [List.getD, List.getElem?_append_left h]
theorem sched_at {ws : List Nat} (h : ws.length = 16) {m : Nat} : ∀ n, ∀ i, i < 16 + n → (sched ws (n + m)).getD i 0 = (sched ws n).getD i 0 := by
  induction m with
  | zero => intro n i _; rfl
  | succ m ih =>
    intro n i hi
    rw [← Nat.add_assoc, sched, getD_app_left (by rw [sched_len h]; omega)]
    exact ih n i hi
theorem sched_new {ws : List Nat} (h : ws.length = 16) (n : Nat) : (sched ws (n + 1)).getD (16 + n) 0 = nextW (sched ws n) (16 + n) := by
  have hl := sched_len h n
  rw [sched, List.getD_eq_getElem?_getD, List.getElem?_append_right (by omega), hl, Nat.sub_self]; rfl
theorem getD_lt {l : List Nat} (h : ∀ x ∈ l, x < 4294967296) (i : Nat) : l.getD i 0 < 4294967296 := by
  rw [List.getD_eq_getElem?_getD]
  by_cases hi : i < l.length
  · rw [List.getElem?_eq_getElem hi]; exact h _ (List.getElem_mem hi)
  · rw [List.getElem?_eq_none (by omega)]; decide

/-- A state. -/
structure H8 where
  (a b c d e f g h : Nat)
structure H8.Ok (s : H8) : Prop where
  (a : s.a < 4294967296) (b : s.b < 4294967296) (c : s.c < 4294967296) (d : s.d < 4294967296) (e : s.e < 4294967296) (f : s.f < 4294967296) (g : s.g < 4294967296) (h : s.h < 4294967296)
def one (s : H8) (k : Nat) : Nat := (s.h + bigE s.e + choose s.e s.f s.g + k) % 4294967296
def two (s : H8) : Nat := (bigA s.a + most s.a s.b s.c) % 4294967296
/-- A round, with the round's number and the block's word, both together. -/
def turn8 (s : H8) (k : Nat) : H8 := ⟨(one s k + two s) % 4294967296, s.a, s.b, s.c, (s.d + one s k) % 4294967296, s.e, s.f, s.g⟩
theorem turn8_ok {s : H8} (hs : s.Ok) (k : Nat) : (turn8 s k).Ok := ⟨Nat.mod_lt _ (by omega), hs.a, hs.b, hs.c, Nat.mod_lt _ (by omega), hs.e, hs.f, hs.g⟩
def add8 (s t : H8) : H8 := ⟨(s.a + t.a) % 4294967296, (s.b + t.b) % 4294967296, (s.c + t.c) % 4294967296, (s.d + t.d) % 4294967296, (s.e + t.e) % 4294967296, (s.f + t.f) % 4294967296, (s.g + t.g) % 4294967296, (s.h + t.h) % 4294967296⟩
theorem add8_ok (s t : H8) : (add8 s t).Ok := by constructor <;> exact Nat.mod_lt _ (by omega)
def H8.list (s : H8) : List Nat := [s.a, s.b, s.c, s.d, s.e, s.f, s.g, s.h]
theorem H8.list_len (s : H8) : s.list.length = 8 := rfl
theorem H8.Ok.all {s : H8} (h : s.Ok) : ∀ x ∈ s.list, x < 4294967296 := by
  intro x hx
  simp only [H8.list, List.mem_cons, List.not_mem_nil, or_false] at hx
  rcases hx with rfl | rfl | rfl | rfl | rfl | rfl | rfl | rfl
  · exact h.a
  · exact h.b
  · exact h.c
  · exact h.d
  · exact h.e
  · exact h.f
  · exact h.g
  · exact h.h

/-- The rounds' numbers. -/
def keys : List Nat := [0x428a2f98, 0x71374491, 0xb5c0fbcf, 0xe9b5dba5, 0x3956c25b, 0x59f111f1, 0x923f82a4, 0xab1c5ed5, 0xd807aa98, 0x12835b01, 0x243185be, 0x550c7dc3, 0x72be5d74, 0x80deb1fe, 0x9bdc06a7, 0xc19bf174, 0xe49b69c1, 0xefbe4786, 0x0fc19dc6, 0x240ca1cc, 0x2de92c6f, 0x4a7484aa, 0x5cb0a9dc, 0x76f988da, 0x983e5152, 0xa831c66d, 0xb00327c8, 0xbf597fc7, 0xc6e00bf3, 0xd5a79147, 0x06ca6351, 0x14292967, 0x27b70a85, 0x2e1b2138, 0x4d2c6dfc, 0x53380d13, 0x650a7354, 0x766a0abb, 0x81c2c92e, 0x92722c85, 0xa2bfe8a1, 0xa81a664b, 0xc24b8b70, 0xc76c51a3, 0xd192e819, 0xd6990624, 0xf40e3585, 0x106aa070, 0x19a4c116, 0x1e376c08, 0x2748774c, 0x34b0bcb5, 0x391c0cb3, 0x4ed8aa4a, 0x5b9cca4f, 0x682e6ff3, 0x748f82ee, 0x78a5636f, 0x84c87814, 0x8cc70208, 0x90befffa, 0xa4506ceb, 0xbef9a3f7, 0xc67178f2]
def start8 : H8 := ⟨0x6a09e667, 0xbb67ae85, 0x3c6ef372, 0xa54ff53a, 0x510e527f, 0x9b05688c, 0x1f83d9ab, 0x5be0cd19⟩
theorem start8_ok : start8.Ok := by constructor <;> decide
theorem keys_lt : ∀ x ∈ keys, x < 4294967296 := by decide
/-- What a round brings: its number and its word. -/
def roundKey (ws : List Nat) (i : Nat) : Nat := (keys.getD i 0 + (sched ws 48).getD i 0) % 4294967296
def rounds (ws : List Nat) (s : H8) : Nat → H8
  | 0 => s
  | n + 1 => turn8 (rounds ws s n) (roundKey ws n)
theorem rounds_ok (ws : List Nat) {s : H8} (h : s.Ok) : ∀ n, (rounds ws s n).Ok
  | 0 => h
  | n + 1 => turn8_ok (rounds_ok ws h n) _
/-- A state behind a block of sixteen words. -/
def block8 (s : H8) (ws : List Nat) : H8 := add8 s (rounds ws s 64)
theorem block8_ok (s : H8) (ws : List Nat) : (block8 s ws).Ok := add8_ok _ _

/-- The number of four bytes, the highest first, in a row of bytes from a place on. -/
def be4At (b : Nat → Nat) (i : Nat) : Nat := b i * 16777216 + b (i + 1) * 65536 + b (i + 2) * 256 + b (i + 3)
def wordsAt (b : Nat → Nat) (at' : Nat) : List Nat := (List.range 16).map fun i => be4At b (at' + 4 * i)
theorem wordsAt_len (b : Nat → Nat) (p : Nat) : (wordsAt b p).length = 16 := by simp [wordsAt]
theorem wordsAt_at (b : Nat → Nat) (p : Nat) {i : Nat} (h : i < 16) : (wordsAt b p).getD i 0 = be4At b (p + 4 * i) := by
  simp [wordsAt, List.getD, List.getElem?_map, List.getElem?_range h]
theorem be4At_lt {b : Nat → Nat} (h : ∀ i, b i < 256) (i : Nat) : be4At b i < 4294967296 := by
  have := h i; have := h (i + 1); have := h (i + 2); have := h (i + 3)
  unfold be4At; omega
theorem wordsAt_lt {b : Nat → Nat} (h : ∀ i, b i < 256) (p : Nat) : ∀ x ∈ wordsAt b p, x < 4294967296 := by
  intro x hx
  simp only [wordsAt, List.mem_map] at hx
  obtain ⟨i, _, rfl⟩ := hx
  exact be4At_lt h _
/-- The state behind the first n blocks. -/
def blocks (b : Nat → Nat) (s : H8) : Nat → H8
  | 0 => s
  | n + 1 => block8 (blocks b s n) (wordsAt b (64 * n))
theorem blocks_ok (b : Nat → Nat) {s : H8} (h : s.Ok) : ∀ n, (blocks b s n).Ok
  | 0 => h
  | _ + 1 => block8_ok _ _

/-- The bytes of a word, the highest first. -/
def be4L (x : Nat) : List Int := [((x / 16777216 : Nat) : Int), ((x / 65536 % 256 : Nat) : Int), ((x / 256 % 256 : Nat) : Int), ((x % 256 : Nat) : Int)]
def be4s : List Nat → List Int
  | [] => []
  | x :: l => be4L x ++ be4s l
theorem be4s_len : ∀ l : List Nat, (be4s l).length = 4 * l.length
  | [] => rfl
  | x :: l => by simp [be4s, be4L, be4s_len l]; omega
theorem be4s_snoc : ∀ (l : List Nat) (x : Nat), be4s (l ++ [x]) = be4s l ++ be4L x
  | [], x => by simp [be4s]
  | y :: l, x => by simp [be4s, be4s_snoc l x]
end Go.Proofs.YthpkhbcahihbnaaDoor
