/- Numbers of a tag, plain mathematics: sums and products limb by limb. -/
import Derived.Test.YtopdjfgomclffaaCarQ
namespace Go.Proofs.Ytopdjfgomclffaa
theorem getD_mem {l : List Int} {k : Nat} (h : k < l.length) : l.getD k 0 ∈ l := by
  rw [List.getD_eq_getElem?_getD, List.getElem?_eq_getElem h]; exact List.getElem_mem _
theorem lok_at {l : List Int} (h : lok pb l) {k : Nat} (hk : k < 5) : 0 ≤ l.getD k 0 ∧ l.getD k 0 < 67108864 := lok_le (by decide) h _ (getD_mem (by rw [show l.length = 5 from lok_len h]; exact hk))
/-- The sums. -/
def sumP (f g : List Int) : List Int := List.zipWith (fun x y => x + y) f g
theorem sumP_len {f g : List Int} (hf : f.length = 5) (hg : g.length = 5) : (sumP f g).length = 5 := by unfold sumP; rw [List.length_zipWith]; omega
theorem sumP_at {f g : List Int} (hf : f.length = 5) (hg : g.length = 5) {k : Nat} (hk : k < 5) : (sumP f g).getD k 0 = f.getD k 0 + g.getD k 0 := by
  unfold sumP
  rw [List.getD_eq_getElem?_getD, List.getElem?_zipWith, List.getD_eq_getElem?_getD, List.getD_eq_getElem?_getD, List.getElem?_eq_getElem (by omega), List.getElem?_eq_getElem (by omega)]; rfl
theorem sumP_val {f g : List Int} (hf : f.length = 5) (hg : g.length = 5) : lval pb (sumP f g) = lval pb f + lval pb g := by
  obtain ⟨a, b, c, d, e, rfl⟩ := five hf
  obtain ⟨a', b', c', d', e', rfl⟩ := five hg
  simp only [sumP, List.zipWith, pb, lval]
  omega
theorem sumP_bd {f g : List Int} (hf : lok pb f) (hg : lok pb g) : bdP (sumP f g) := by
  have h1 := lok_len hf
  have h2 := lok_len hg
  refine ⟨sumP_len h1 h2, fun x hx => ?_⟩
  obtain ⟨j, hj, rfl⟩ := List.getElem_of_mem hx
  have hj5 : j < 5 := by rw [sumP_len h1 h2] at hj; exact hj
  have e := sumP_at h1 h2 hj5
  rw [List.getD_eq_getElem?_getD, List.getElem?_eq_getElem hj, Option.getD_some] at e
  have := lok_at hf hj5
  have := lok_at hg hj5
  omega
/-- The first k places added. -/
def sumPT (f g : List Int) (k : Nat) : List Int := (sumP f g).take k ++ f.drop k
theorem sumPT_len {f g : List Int} (hf : f.length = 5) (hg : g.length = 5) {k : Nat} (hk : k ≤ 5) : (sumPT f g k).length = 5 := by
  unfold sumPT
  rw [List.length_append, List.length_take, List.length_drop, sumP_len hf hg]; omega
theorem sumPT_at {f g : List Int} (hf : f.length = 5) (hg : g.length = 5) {k : Nat} (hk : k < 5) : (sumPT f g k).getD k 0 = f.getD k 0 := by
  unfold sumPT
  have ht : ((sumP f g).take k).length = k := by rw [List.length_take, sumP_len hf hg]; omega
  rw [List.getD_eq_getElem?_getD, List.getElem?_append_right (by omega), ht, Nat.sub_self, List.getElem?_drop, Nat.add_zero, List.getD_eq_getElem?_getD]
theorem sumPT_next {f g : List Int} (hf : f.length = 5) (hg : g.length = 5) {k : Nat} (hk : k < 5) : (sumPT f g k).set k (f.getD k 0 + g.getD k 0) = sumPT f g (k + 1) := by
  unfold sumPT
  have ht : ((sumP f g).take k).length = k := by rw [List.length_take, sumP_len hf hg]; omega
  have hd : f.drop k = f.getD k 0 :: f.drop (k + 1) := by
    rw [List.drop_eq_getElem_cons (by omega), List.getD_eq_getElem?_getD, List.getElem?_eq_getElem (by omega)]; rfl
  rw [hd, List.set_append_right _ _ (by omega), ht, Nat.sub_self, take_snocP (by rw [sumP_len hf hg]; exact hk), sumP_at hf hg hk]
  simp
theorem sumPT_all {f g : List Int} (hf : f.length = 5) (hg : g.length = 5) : sumPT f g 5 = sumP f g := by
  unfold sumPT
  rw [List.take_of_length_le (by rw [sumP_len hf hg]; omega), List.drop_of_length_le (by omega)]; simp
theorem sumPT_zero (f g : List Int) : sumPT f g 0 = f := by unfold sumPT; simp
/-- One product added where it belongs. -/
def acc1 (out f g : List Int) (i j : Nat) : List Int := if i + j < 5 then out.set (i + j) (out.getD (i + j) 0 + f.getD i 0 * g.getD j 0) else out.set (i + j - 5) (out.getD (i + j - 5) 0 + 5 * f.getD i 0 * g.getD j 0)
def rowTo (out f g : List Int) (i : Nat) : Nat → List Int
  | 0 => out
  | j + 1 => acc1 (rowTo out f g i j) f g i j
def mulTo (f g : List Int) : Nat → List Int
  | 0 => List.replicate 5 0
  | i + 1 => rowTo (mulTo f g i) f g i 5
theorem acc1_len {out f g : List Int} {i j : Nat} (h : out.length = 5) : (acc1 out f g i j).length = 5 := by unfold acc1; split <;> rw [List.length_set, h]
theorem rowTo_len {out f g : List Int} {i : Nat} (h : out.length = 5) : ∀ j, (rowTo out f g i j).length = 5
  | 0 => h
  | j + 1 => acc1_len (rowTo_len h j)
theorem mulTo_len (f g : List Int) : ∀ i, (mulTo f g i).length = 5
  | 0 => rfl
  | i + 1 => rowTo_len (mulTo_len f g i) 5
/-- Each number of a list between 0 and n products. -/
def bdM (n : Nat) (l : List Int) : Prop := l.length = 5 ∧ ∀ k, k < 5 → 0 ≤ l.getD k 0 ∧ l.getD k 0 ≤ (n : Int) * 22517998136852480
theorem prodP {x y : Int} (hx : 0 ≤ x ∧ x < 67108864) (hy : 0 ≤ y ∧ y < 67108864) : 0 ≤ x * y ∧ x * y ≤ 4503599627370496 := by
  refine ⟨Int.mul_nonneg hx.1 hy.1, ?_⟩
  have h1 := Int.mul_le_mul_of_nonneg_right (show x ≤ 67108864 by omega) hy.1
  omega
theorem acc1_bd {out f g : List Int} {i j n : Nat} (hf : lok pb f) (hg : lok pb g) (hi : i < 5) (hj : j < 5) (h : bdM n out) : bdM (n + 1) (acc1 out f g i j) := by
  refine ⟨acc1_len h.1, fun k hk => ?_⟩
  have hp := prodP (lok_at hf hi) (lok_at hg hj)
  have ho := h.2 k hk
  have hn : ((n + 1 : Nat) : Int) * 22517998136852480 = (n : Int) * 22517998136852480 + 22517998136852480 := by omega
  have h5 : 5 * f.getD i 0 * g.getD j 0 = 5 * (f.getD i 0 * g.getD j 0) := Int.mul_assoc _ _ _
  rw [hn]
  unfold acc1
  split
  · rename_i hlt
    by_cases e : i + j = k
    · subst e; rw [getD_set_same _ (by rw [h.1]; omega)]; omega
    · rw [getD_set_other _ e]; omega
  · rename_i hlt
    rw [h5]
    by_cases e : i + j - 5 = k
    · subst e; rw [getD_set_same _ (by rw [h.1]; omega)]; omega
    · rw [getD_set_other _ e]; omega
theorem rowTo_bd {out f g : List Int} {i n : Nat} (hf : lok pb f) (hg : lok pb g) (hi : i < 5) (h : bdM n out) : ∀ j, j ≤ 5 → bdM (n + j) (rowTo out f g i j)
  | 0, _ => h
  | j + 1, hj => acc1_bd hf hg hi (by omega) (rowTo_bd hf hg hi h j (by omega))
theorem mulTo_bd {f g : List Int} (hf : lok pb f) (hg : lok pb g) : ∀ i, i ≤ 5 → bdM (5 * i) (mulTo f g i)
  | 0, _ => ⟨rfl, fun k hk => by
      have : (mulTo f g 0).getD k 0 = 0 := by
        show (List.replicate 5 (0 : Int)).getD k 0 = 0
        rw [List.getD_eq_getElem?_getD, List.getElem?_replicate, if_pos hk]; rfl
      rw [this]; exact ⟨Int.le_refl _, by simp⟩⟩
  | i + 1, hi => by
    have := rowTo_bd hf hg (show i < 5 by omega) (mulTo_bd hf hg i (by omega)) 5 (Nat.le_refl _)
    rw [show 5 * i + 5 = 5 * (i + 1) by omega] at this
    exact this
theorem bdM_bd {n : Nat} {l : List Int} (hn : n ≤ 25) (h : bdM n l) : bdP l := ⟨h.1, fun x hx => by
  obtain ⟨j, hj, rfl⟩ := List.getElem_of_mem hx
  have := h.2 j (by rw [← h.1]; exact hj)
  rw [List.getD_eq_getElem?_getD, List.getElem?_eq_getElem hj, Option.getD_some] at this
  omega⟩
def pw (k : Nat) : Int := 67108864 ^ k
theorem lval_set {l : List Int} (hl : l.length = 5) {k : Nat} (hk : k < 5) (d : Int) : lval pb (l.set k (l.getD k 0 + d)) = lval pb l + d * pw k := by
  obtain ⟨a, b, c, e, f, rfl⟩ := five hl
  have h2 : pw 2 = 4503599627370496 := by decide
  have h3 : pw 3 = 302231454903657293676544 := by decide
  have h4 : pw 4 = 20282409603651670423947251286016 := by decide
  have h1 : pw 1 = 67108864 := by decide
  have h0 : pw 0 = 1 := by decide
  rcases (show k = 0 ∨ k = 1 ∨ k = 2 ∨ k = 3 ∨ k = 4 by omega) with rfl | rfl | rfl | rfl | rfl
  · rw [h0]; simp [lval, pb]; omega
  · rw [h1]; simp [lval, pb]; omega
  · rw [h2]; simp [lval, pb]; omega
  · rw [h3]; simp [lval, pb]; omega
  · rw [h4]; simp [lval, pb]; omega
theorem pw_add (i j : Nat) : pw (i + j) = pw i * pw j := Int.pow_add _ _ _
theorem pw5 : pw 5 = pp + 5 := by decide
theorem acc1_val {out f g : List Int} {i j : Nat} (ho : out.length = 5) (hi : i < 5) (hj : j < 5) : ∃ q, lval pb (acc1 out f g i j) = lval pb out + (f.getD i 0 * pw i) * (g.getD j 0 * pw j) - pp * q := by
  have hm : ∀ a b c d : Int, (a * c) * (b * d) = (a * b) * (c * d) := fun a b c d => by rw [Int.mul_assoc, Int.mul_left_comm c b d, ← Int.mul_assoc]
  rw [hm, ← pw_add]
  unfold acc1
  split
  · rename_i h
    exact ⟨0, by rw [lval_set ho h]; omega⟩
  · rename_i h
    refine ⟨f.getD i 0 * g.getD j 0 * pw (i + j - 5), ?_⟩
    rw [lval_set ho (by omega)]
    have e : pw (i + j) = pw (i + j - 5) * pw 5 := by rw [← pw_add]; congr 1; omega
    rw [e, pw5]
    generalize f.getD i 0 = x
    generalize g.getD j 0 = y
    generalize pw (i + j - 5) = z
    have e1 : 5 * x * y * z = 5 * (x * y * z) := by rw [Int.mul_assoc, Int.mul_assoc, Int.mul_assoc]
    have e2 : x * y * (z * (pp + 5)) = pp * (x * y * z) + 5 * (x * y * z) := by
      rw [← Int.mul_assoc, Int.mul_add, Int.mul_comm (x * y * z) pp, Int.mul_comm (x * y * z) 5]
    rw [e1, e2]
    generalize x * y * z = t
    generalize pp * t = u
    omega
/-- The value of the first k limbs. -/
def lowV (l : List Int) : Nat → Int
  | 0 => 0
  | k + 1 => lowV l k + l.getD k 0 * pw k
theorem lowV_all {l : List Int} (hl : l.length = 5) : lowV l 5 = lval pb l := by
  obtain ⟨a, b, c, d, e, rfl⟩ := five hl
  have h2 : pw 2 = 4503599627370496 := by decide
  have h3 : pw 3 = 302231454903657293676544 := by decide
  have h4 : pw 4 = 20282409603651670423947251286016 := by decide
  have h1 : pw 1 = 67108864 := by decide
  have h0 : pw 0 = 1 := by decide
  simp [lowV, lval, pb, h0, h1, h2, h3, h4]
  omega
theorem rowTo_val {out f g : List Int} {i : Nat} (ho : out.length = 5) (hi : i < 5) : ∀ j, j ≤ 5 → ∃ q, lval pb (rowTo out f g i j) = lval pb out + (f.getD i 0 * pw i) * lowV g j - pp * q
  | 0, _ => ⟨0, by simp [rowTo, lowV]⟩
  | j + 1, hj => by
    obtain ⟨q, hq⟩ := rowTo_val (f := f) (g := g) ho hi j (by omega)
    obtain ⟨r, hr⟩ := acc1_val (f := f) (g := g) (rowTo_len (f := f) (g := g) (i := i) ho j) hi (show j < 5 by omega)
    refine ⟨q + r, ?_⟩
    show lval pb (acc1 (rowTo out f g i j) f g i j) = _
    rw [hr, hq]
    show _ = lval pb out + (f.getD i 0 * pw i) * (lowV g j + g.getD j 0 * pw j) - _
    rw [Int.mul_add, Int.mul_add]
    omega
theorem mulTo_val {f g : List Int} (hg : g.length = 5) : ∀ i, i ≤ 5 → ∃ q, lval pb (mulTo f g i) = lowV f i * lval pb g - pp * q
  | 0, _ => ⟨0, by rw [show lval pb (mulTo f g 0) = 0 from (by decide : lval pb (List.replicate 5 0) = 0)]; simp [lowV]⟩
  | i + 1, hi => by
    obtain ⟨q, hq⟩ := mulTo_val (f := f) hg i (by omega)
    obtain ⟨r, hr⟩ := rowTo_val (f := f) (g := g) (mulTo_len f g i) (show i < 5 by omega) 5 (Nat.le_refl _)
    refine ⟨q + r, ?_⟩
    show lval pb (rowTo (mulTo f g i) f g i 5) = (lowV f i + f.getD i 0 * pw i) * lval pb g - _
    rw [hr, hq, lowV_all hg, Int.add_mul, Int.mul_add]
    omega
theorem mul_canon {f g : List Int} (hf : f.length = 5) (hg : g.length = 5) : canonP (lval pb (mulTo f g 5)) = canonP (lval pb f * lval pb g) := by
  obtain ⟨q, hq⟩ := mulTo_val (f := f) hg 5 (Nat.le_refl _)
  rw [lowV_all hf] at hq
  apply canonP_mod
  rw [hq, Int.sub_emod, Int.mul_emod_right, Int.sub_zero, Int.emod_emod]
end Go.Proofs.Ytopdjfgomclffaa
