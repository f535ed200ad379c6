/- Numbers in limbs, plain mathematics: each limb has its own base; what is carried on; the limbs of a number below all are unique. -/
namespace Go.Proofs.Ytopdjfgomclffaa
/-- The value of limbs, the lowest first. -/
def lval : List Int → List Int → Int
  | b :: bs, x :: l => x + b * lval bs l
  | _, _ => 0
/-- The product of the bases. -/
def lall : List Int → Int
  | [] => 1
  | b :: bs => b * lall bs
/-- Each limb below its base. -/
def lok : List Int → List Int → Prop
  | [], [] => True
  | b :: bs, x :: l => 0 ≤ x ∧ x < b ∧ lok bs l
  | _, _ => False
/-- Carried on, with what comes from below; and what stands above. -/
def lcar : List Int → Int → List Int → List Int × Int
  | b :: bs, c, x :: l => (((x + c) % b) :: (lcar bs ((x + c) / b) l).1, (lcar bs ((x + c) / b) l).2)
  | _, c, _ => ([], c)
theorem lall_pos : ∀ {bs : List Int}, (∀ b ∈ bs, 0 < b) → 0 < lall bs
  | [], _ => by decide
  | b :: bs, h => Int.mul_pos (h b (by simp)) (lall_pos (fun x hx => h x (by simp [hx])))
theorem lok_len : ∀ {bs l : List Int}, lok bs l → l.length = bs.length
  | [], [], _ => rfl
  | [], _ :: _, h => by cases h
  | _ :: _, [], h => by cases h
  | _ :: bs, _ :: l, h => by simp [lok_len h.2.2]
theorem lval_low : ∀ {bs l : List Int}, lok bs l → 0 ≤ lval bs l
  | [], [], _ => by decide
  | [], _ :: _, h => by cases h
  | _ :: _, [], h => by cases h
  | b :: bs, x :: l, h => by
    have := lval_low h.2.2
    have := Int.mul_nonneg (show 0 ≤ b by have := h.1; have := h.2.1; omega) this
    have := h.1
    unfold lval; omega
theorem lval_lt : ∀ {bs l : List Int}, lok bs l → lval bs l < lall bs
  | [], [], _ => by decide
  | [], _ :: _, h => by cases h
  | _ :: _, [], h => by cases h
  | b :: bs, x :: l, h => by
    have h1 := lval_lt h.2.2
    have hb : 0 ≤ b := by have := h.1; have := h.2.1; omega
    have h2 := Int.mul_le_mul_of_nonneg_left (show lval bs l + 1 ≤ lall bs by omega) hb
    rw [Int.mul_add, Int.mul_one] at h2
    have := h.2.1
    unfold lval lall; omega
theorem lval_inj : ∀ {bs l m : List Int}, lok bs l → lok bs m → lval bs l = lval bs m → l = m
  | [], [], [], _, _, _ => rfl
  | [], _ :: _, _, h, _, _ => by cases h
  | [], [], _ :: _, _, h, _ => by cases h
  | _ :: _, [], _, h, _, _ => by cases h
  | _ :: _, _ :: _, [], _, h, _ => by cases h
  | b :: bs, x :: l, y :: m, h1, h2, e => by
    simp only [lval] at e
    have hx := h1.1; have hx' := h1.2.1; have hy := h2.1; have hy' := h2.2.1
    have e1 : (x + b * lval bs l) % b = (y + b * lval bs m) % b := by rw [e]
    rw [Int.add_mul_emod_self_left, Int.add_mul_emod_self_left, Int.emod_eq_of_lt hx hx', Int.emod_eq_of_lt hy hy'] at e1
    subst e1
    have e2 : b * lval bs l = b * lval bs m := by omega
    have hb : b ≠ 0 := by omega
    rw [lval_inj h1.2.2 h2.2.2 (Int.eq_of_mul_eq_mul_left hb e2)]
theorem lcar_len : ∀ {bs l : List Int} (c : Int), l.length = bs.length → (lcar bs c l).1.length = bs.length
  | [], l, c, h => by cases l <;> rfl
  | _ :: _, [], _, h => by cases h
  | b :: bs, x :: l, c, h => by
    simp only [lcar, List.length_cons]
    rw [lcar_len _ (by simpa using h)]
theorem lcar_ok : ∀ {bs l : List Int} (c : Int), (∀ b ∈ bs, 0 < b) → l.length = bs.length → lok bs (lcar bs c l).1
  | [], [], _, _, _ => trivial
  | [], _ :: _, _, _, h => by cases h
  | _ :: _, [], _, _, h => by cases h
  | b :: bs, x :: l, c, hp, h => by
    have hb := hp b (by simp)
    exact ⟨Int.emod_nonneg _ (by omega), Int.emod_lt_of_pos _ hb, lcar_ok _ (fun y hy => hp y (by simp [hy])) (by simpa using h)⟩
theorem lcar_val : ∀ {bs l : List Int} (c : Int), l.length = bs.length → lval bs (lcar bs c l).1 + lall bs * (lcar bs c l).2 = lval bs l + c
  | [], [], c, _ => by simp [lval, lall, lcar]
  | [], _ :: _, _, h => by cases h
  | _ :: _, [], _, h => by cases h
  | b :: bs, x :: l, c, h => by
    have e := lcar_val (bs := bs) (l := l) ((x + c) / b) (by simpa using h)
    have d := Int.emod_add_mul_ediv (x + c) b
    simp only [lval, lall, lcar]
    rw [Int.mul_assoc, Int.add_assoc, ← Int.mul_add, e, Int.mul_add]
    omega
/-- What stands above is the value by all, rounded down. -/
theorem lcar_over {bs l : List Int} (c : Int) (hp : ∀ b ∈ bs, 0 < b) (h : l.length = bs.length) : (lcar bs c l).2 = (lval bs l + c) / lall bs ∧ lval bs (lcar bs c l).1 = (lval bs l + c) % lall bs := by
  have e := lcar_val c h
  have o := lcar_ok c hp h
  have a := lval_low o
  have b := lval_lt o
  have p := lall_pos hp
  rw [← e, Int.mul_comm (lall bs)]
  constructor
  · rw [Int.add_mul_ediv_right _ _ (by omega), Int.ediv_eq_zero_of_lt a b, Int.zero_add]
  · rw [Int.add_mul_emod_self_right, Int.emod_eq_of_lt a b]
theorem lcar_id {bs l : List Int} (hp : ∀ b ∈ bs, 0 < b) (h : lok bs l) : lcar bs 0 l = (l, 0) := by
  have hl := lok_len h
  have o := lcar_over 0 hp hl
  have a := lval_low h
  have b := lval_lt h
  rw [Int.add_zero, Int.ediv_eq_zero_of_lt a b, Int.emod_eq_of_lt a b] at o
  rw [show lcar bs 0 l = ((lcar bs 0 l).1, (lcar bs 0 l).2) from rfl, o.1, lval_inj (lcar_ok 0 hp hl) h o.2]
/-- The limbs of a number. -/
def lof : List Int → Int → List Int
  | [], _ => []
  | b :: bs, v => v % b :: lof bs (v / b)
theorem lof_len : ∀ (bs : List Int) (v : Int), (lof bs v).length = bs.length
  | [], _ => rfl
  | _ :: bs, v => by simp [lof, lof_len bs]
theorem lof_ok : ∀ {bs : List Int} (v : Int), (∀ b ∈ bs, 0 < b) → lok bs (lof bs v)
  | [], _, _ => trivial
  | b :: bs, v, hp => ⟨Int.emod_nonneg _ (by have := hp b (by simp); omega), Int.emod_lt_of_pos _ (hp b (by simp)), lof_ok _ (fun y hy => hp y (by simp [hy]))⟩
theorem lof_val : ∀ {bs : List Int} (v : Int), (∀ b ∈ bs, 0 < b) → lval bs (lof bs v) = v % lall bs
  | [], v, _ => by simp [lval, lall, Int.emod_one]
  | b :: bs, v, hp => by
    have e := lof_val (bs := bs) (v / b) (fun y hy => hp y (by simp [hy]))
    have hb := hp b (by simp)
    have hq := lall_pos (bs := bs) (fun y hy => hp y (by simp [hy]))
    simp only [lval, lof, lall]
    rw [e]
    have hv := Int.emod_add_mul_ediv v b
    have h1 := Int.emod_nonneg v (show b ≠ 0 by omega)
    have h2 := Int.emod_lt_of_pos v hb
    have h3 := Int.emod_nonneg (v / b) (show lall bs ≠ 0 by omega)
    have h4 := Int.emod_lt_of_pos (v / b) hq
    have hw := Int.emod_add_mul_ediv (v / b) (lall bs)
    have h5 : v = (v % b + b * (v / b % lall bs)) + (b * lall bs) * (v / b / lall bs) := by
      rw [Int.mul_assoc, Int.add_assoc, ← Int.mul_add, hw, hv]
    have h6 : 0 ≤ v % b + b * (v / b % lall bs) := Int.add_nonneg h1 (Int.mul_nonneg (by omega) h3)
    have h7 : v % b + b * (v / b % lall bs) < b * lall bs := by
      have := Int.mul_le_mul_of_nonneg_left (show v / b % lall bs + 1 ≤ lall bs by omega) (show 0 ≤ b by omega)
      rw [Int.mul_add, Int.mul_one] at this; omega
    generalize v % b + b * (v / b % lall bs) = z at h5 h6 h7 ⊢
    rw [h5, Int.add_mul_emod_self_left, Int.emod_eq_of_lt h6 h7]
theorem lof_of {bs l : List Int} (hp : ∀ b ∈ bs, 0 < b) (h : lok bs l) : lof bs (lval bs l) = l :=
  lval_inj (lof_ok _ hp) h (by rw [lof_val _ hp, Int.emod_eq_of_lt (lval_low h) (lval_lt h)])
end Go.Proofs.Ytopdjfgomclffaa
