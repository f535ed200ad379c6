/- Numbers of a tag, plain mathematics: five limbs, what is carried on and around, and what is below the modulus. -/
import Derived.Test.YtopdjfgomclffaaLimbP
namespace Go.Proofs.Ytopdjfgomclffaa
/-- The bases of a tag's limbs: 26 bits each. -/
def pb : List Int := [67108864, 67108864, 67108864, 67108864, 67108864]
theorem pb_pos : ∀ b ∈ pb, 0 < b := by decide
theorem pb_all : lall pb = 1361129467683753853853498429727072845824 := by decide
def pp : Int := 1361129467683753853853498429727072845819
def addP (d : Int) : List Int → List Int
  | [] => []
  | x :: l => (x + d) :: l
theorem addP_len (d : Int) (l : List Int) : (addP d l).length = l.length := by cases l <;> rfl
theorem addP_zero (l : List Int) : addP 0 l = l := by cases l <;> simp [addP]
theorem addP_val (d : Int) {l : List Int} (h : l.length = 5) : lval pb (addP d l) = lval pb l + d := by
  cases l with
  | nil => cases h
  | cons x l => simp only [addP, pb, lval]; omega
theorem five {l : List Int} (h : l.length = 5) : ∃ a b c d e, l = [a, b, c, d, e] := by
  match l, h with
  | [a, b, c, d, e], _ => exact ⟨a, b, c, d, e, rfl⟩
/-- Carried on once, and what stands above comes around. -/
def carP (l : List Int) : List Int := addP (5 * (lcar pb 0 l).2) (lcar pb 0 l).1
def bdP (l : List Int) : Prop := l.length = 5 ∧ ∀ x ∈ l, 0 ≤ x ∧ x ≤ 1152921504606846976
theorem bd_val {l : List Int} (h : bdP l) : 0 ≤ lval pb l ∧ lval pb l < 93536104789177786765035829293842113257979682750464 := by
  obtain ⟨a, b, c, d, e, rfl⟩ := five h.1
  have ha := h.2 a (by simp); have hb := h.2 b (by simp); have hc := h.2 c (by simp); have hd := h.2 d (by simp); have he := h.2 e (by simp)
  simp only [pb, lval]
  omega
theorem carP_len {l : List Int} (h : l.length = 5) : (carP l).length = 5 := by unfold carP; rw [addP_len]; exact lcar_len 0 h
theorem carP_val {l : List Int} (h : l.length = 5) : lval pb (carP l) = lval pb l - (lval pb l / 1361129467683753853853498429727072845824) * pp := by
  have o := lcar_over (bs := pb) 0 pb_pos h
  unfold carP
  rw [addP_val _ (lcar_len 0 h), o.1, o.2, pb_all, Int.add_zero]
  unfold pp
  omega
theorem carP_mod {l : List Int} (h : l.length = 5) : lval pb (carP l) % pp = lval pb l % pp := by
  rw [carP_val h, Int.sub_emod, Int.mul_emod_left, Int.sub_zero, Int.emod_emod]
theorem carP_id {l : List Int} (h : lok pb l) : carP l = l := by
  unfold carP
  rw [lcar_id pb_pos h]
  exact addP_zero l
theorem carP_none {l : List Int} (h : l.length = 5) (h0 : (lcar pb 0 l).2 = 0) : lok pb (carP l) := by
  unfold carP
  rw [h0]
  show lok pb (addP 0 _)
  rw [addP_zero]
  exact lcar_ok 0 pb_pos h
theorem carP_fix {l : List Int} (h : bdP l) (e : carP l = l) : lok pb l := by
  have hv := carP_val h.1
  have o := lcar_over (bs := pb) 0 pb_pos h.1
  rw [e] at hv
  rw [pb_all, Int.add_zero] at o
  have h0 : (lcar pb 0 l).2 = 0 := by
    rw [o.1]
    unfold pp at hv
    omega
  rw [← e]
  exact carP_none h.1 h0
/-- The first limb may be greater, the others are as they must be. -/
def headP (l : List Int) : Prop := ∃ x r, l = x :: r ∧ lok [67108864, 67108864, 67108864, 67108864] r ∧ 0 ≤ x ∧ x ≤ 1099511627776
theorem lok_le : ∀ {bs l : List Int}, (∀ b ∈ bs, b ≤ 67108864) → lok bs l → ∀ x ∈ l, 0 ≤ x ∧ x < 67108864
  | [], [], _, _, _, hx => by cases hx
  | [], _ :: _, _, h, _, _ => by cases h
  | _ :: _, [], _, h, _, _ => by cases h
  | b :: bs, y :: l, hb, h, x, hx => by
    rcases List.mem_cons.1 hx with rfl | hx
    · have := hb b (by simp); exact ⟨h.1, by have := h.2.1; omega⟩
    · exact lok_le (fun z hz => hb z (by simp [hz])) h.2.2 x hx
theorem lok_bd {l : List Int} (h : lok pb l) : bdP l := ⟨lok_len h, fun x hx => by have := lok_le (by decide) h x hx; omega⟩
theorem head_bd {l : List Int} (h : headP l) : bdP l := by
  obtain ⟨x, r, rfl, hr, h0, h1⟩ := h
  refine ⟨by have := lok_len hr; simp at this; simp [this], fun y hy => ?_⟩
  rcases List.mem_cons.1 hy with rfl | hy
  · omega
  · have := lok_le (by decide) hr y hy; omega
theorem carP_head {l : List Int} (h : bdP l) : headP (carP l) := by
  have o := lcar_over (bs := pb) 0 pb_pos h.1
  have ok := lcar_ok (bs := pb) 0 pb_pos h.1
  have hv := bd_val h
  rw [pb_all, Int.add_zero] at o
  unfold carP
  have ho : 0 ≤ (lcar pb 0 l).2 ∧ (lcar pb 0 l).2 ≤ 137438953472 := by rw [o.1]; omega
  generalize (lcar pb 0 l).2 = ov at ho
  generalize (lcar pb 0 l).1 = f at ok
  clear o hv h
  match f, ok with
  | x :: r, ok =>
    have h1 := ok.1
    have h2 := ok.2.1
    exact ⟨x + 5 * ov, r, rfl, ok.2.2, by omega, by omega⟩
theorem carP_bd {l : List Int} (h : bdP l) : bdP (carP l) := head_bd (carP_head h)
theorem head_two {l : List Int} (h : headP l) : lok pb (carP (carP l)) := by
  have hb := head_bd h
  have o := lcar_over (bs := pb) 0 pb_pos hb.1
  rw [pb_all, Int.add_zero] at o
  have hv : 0 ≤ lval pb l ∧ lval pb l < 1361129467683753853853498429727072845824 + 1099511627776 := by
    obtain ⟨x, r, rfl, hr, h0, h1⟩ := h
    have a := lval_low hr
    have b := lval_lt hr
    have c : lall [67108864, 67108864, 67108864, 67108864] = (20282409603651670423947251286016 : Int) := by decide
    rw [c] at b
    show 0 ≤ x + 67108864 * lval [67108864, 67108864, 67108864, 67108864] r ∧ x + 67108864 * lval [67108864, 67108864, 67108864, 67108864] r < _
    omega
  by_cases h0 : (lcar pb 0 l).2 = 0
  · have := carP_none hb.1 h0
    rw [carP_id this]; exact this
  · have e := carP_val hb.1
    have hb2 := carP_bd hb
    have o2 := (lcar_over (bs := pb) 0 pb_pos hb2.1).1
    rw [pb_all, Int.add_zero, e] at o2
    refine carP_none hb2.1 ?_
    rw [o2]
    have o1 := o.1
    rw [o1] at h0
    unfold pp
    omega
theorem three {l : List Int} (h : bdP l) : lok pb (carP (carP (carP l))) := head_two (carP_head h)
/-- The limbs of a number below the modulus. -/
def canonP (v : Int) : List Int := lof pb (v % pp)
theorem canonP_len (v : Int) : (canonP v).length = 5 := lof_len _ _
theorem canonP_ok (v : Int) : lok pb (canonP v) := lof_ok _ pb_pos
theorem canonP_val (v : Int) : lval pb (canonP v) = v % pp := by
  unfold canonP
  rw [lof_val _ pb_pos, pb_all]
  unfold pp
  omega
theorem canonP_mod {u v : Int} (h : u % pp = v % pp) : canonP u = canonP v := by unfold canonP; rw [h]
theorem canonP_eq {l : List Int} (h : lok pb l) (hv : lval pb l < pp) : canonP (lval pb l) = l := by
  have h0 := lval_low h
  unfold canonP
  rw [Int.emod_eq_of_lt h0 hv]
  exact lof_of pb_pos h
theorem finP_yes {f : List Int} (hf : lok pb f) (h : (lcar pb 0 (addP 5 f)).2 ≠ 0) : (lcar pb 0 (addP 5 f)).1 = canonP (lval pb f) := by
  have hl : f.length = 5 := lok_len hf
  have hl2 : (addP 5 f).length = 5 := by rw [addP_len, hl]
  have o := lcar_over (bs := pb) 0 pb_pos hl2
  have ok := lcar_ok (bs := pb) 0 pb_pos hl2
  have a := lval_low hf
  have b := lval_lt hf
  rw [addP_val _ hl, pb_all, Int.add_zero] at o
  rw [pb_all] at b
  refine lval_inj ok (canonP_ok _) ?_
  rw [canonP_val, o.2]
  have o1 := o.1
  generalize lval pb f = v at o1 a b
  generalize (lcar pb 0 (addP 5 f)).2 = q at o1 h
  unfold pp
  omega
theorem finP_no {f : List Int} (hf : lok pb f) (h : (lcar pb 0 (addP 5 f)).2 = 0) : f = canonP (lval pb f) := by
  have hl : f.length = 5 := lok_len hf
  have hl2 : (addP 5 f).length = 5 := by rw [addP_len, hl]
  have o := (lcar_over (bs := pb) 0 pb_pos hl2).1
  have a := lval_low hf
  have b := lval_lt hf
  rw [addP_val _ hl, pb_all, Int.add_zero, h] at o
  rw [pb_all] at b
  refine (canonP_eq hf ?_).symm
  unfold pp
  omega
/-- The modulus or more, as the limbs tell. -/
def abP (l : List Int) : Bool := match l with
  | [a, b, c, d, e] => b == 67108863 && c == 67108863 && d == 67108863 && e == 67108863 && decide (67108859 ≤ a)
  | _ => false
theorem abP_yes {l : List Int} (h : lok pb l) (e : abP l = true) : canonP (lval pb l) = [l.getD 0 0 - 67108859, 0, 0, 0, 0] := by
  obtain ⟨a, b, c, d, f, rfl⟩ := five (lok_len h)
  simp [abP] at e
  obtain ⟨⟨⟨⟨rfl, rfl⟩, rfl⟩, rfl⟩, h1⟩ := e
  have ha := h.1
  have ha2 := h.2.1
  refine (lval_inj (bs := pb) ?_ (canonP_ok _) ?_).symm
  · exact ⟨by simp; omega, by simp; omega, by decide, by decide, by decide, by decide, by decide, by decide, by decide, by decide, trivial⟩
  · rw [canonP_val]
    simp only [lval, pb, List.getD_cons_zero]
    unfold pp
    omega
theorem abP_no {l : List Int} (h : lok pb l) (e : abP l = false) : canonP (lval pb l) = l := by
  refine canonP_eq h ?_
  obtain ⟨a, b, c, d, f, rfl⟩ := five (lok_len h)
  simp [abP] at e
  obtain ⟨a0, a1, b0, b1, c0, c1, d0, d1, f0, f1, -⟩ := h
  simp only [lval, pb]
  unfold pp
  by_cases hb : b = 67108863
  · by_cases hc : c = 67108863
    · by_cases hd : d = 67108863
      · by_cases hf : f = 67108863
        · have := e hb hc hd hf; omega
        · omega
      · omega
    · omega
  · omega
theorem abP_is {l : List Int} (h : lok pb l) : abP l = decide (pp ≤ lval pb l) := by
  cases e : abP l with
  | false =>
    have h1 := abP_no h e
    have h2 := canonP_val (lval pb l)
    rw [h1] at h2
    have h3 := Int.emod_lt_of_pos (lval pb l) (show 0 < pp by decide)
    rw [← h2] at h3
    exact (decide_eq_false (by omega)).symm
  | true =>
    obtain ⟨a, b, c, d, f, rfl⟩ := five (lok_len h)
    simp [abP] at e
    obtain ⟨⟨⟨⟨rfl, rfl⟩, rfl⟩, rfl⟩, h1⟩ := e
    refine (decide_eq_true ?_).symm
    simp only [lval, pb]
    unfold pp
    omega
/-- How far it is to the end. -/
def mesP (last p : List Int) : Nat := 3 * (lval pb p).toNat + (if last = p then 0 else if carP p = p then 1 else 2)
theorem mesP_less {last p : List Int} (h : bdP p) (hne : last ≠ p) : mesP p (carP p) < mesP last p := by
  have hv := carP_val h.1
  have hb := bd_val h
  have o := (lcar_over (bs := pb) 0 pb_pos h.1).1
  rw [pb_all, Int.add_zero] at o
  unfold mesP
  rw [if_neg hne]
  by_cases h0 : (lcar pb 0 p).2 = 0
  · have hc := carP_id (carP_none h.1 h0)
    rw [hc, if_pos rfl]
    rw [h0] at o
    rw [← o] at hv
    by_cases e : p = carP p
    · rw [if_pos e, if_pos e.symm, hv]; omega
    · rw [if_neg e, if_neg (fun x => e x.symm), hv]; omega
  · rw [hv]
    rw [o] at h0
    unfold pp
    split <;> split <;> (try split) <;> omega
end Go.Proofs.Ytopdjfgomclffaa
