/- The specification's carry of limbs, plain mathematics. -/
import Derived.Test.YtjhglbdknjoeeaaPowP
namespace Go.Proofs.Ytjhglbdknjoeeaa
def b16 : List Int := [65536, 65536, 65536, 65536, 65536, 65536, 65536, 65536, 65536, 65536, 65536, 65536, 65536, 65536, 65536, 65536]
theorem b16_pos : ∀ b ∈ b16, 0 < b := by decide
theorem b16_all : lall b16 = 115792089237316195423570985008687907853269984665640564039457584007913129639936 := by decide
theorem b16_at {k : Nat} (h : k < 16) : b16.getD k 0 = 65536 := by
  rcases (show k = 0 ∨ k = 1 ∨ k = 2 ∨ k = 3 ∨ k = 4 ∨ k = 5 ∨ k = 6 ∨ k = 7 ∨ k = 8 ∨ k = 9 ∨ k = 10 ∨ k = 11 ∨ k = 12 ∨ k = 13 ∨ k = 14 ∨ k = 15 by omega) with rfl | rfl | rfl | rfl | rfl | rfl | rfl | rfl | rfl | rfl | rfl | rfl | rfl | rfl | rfl | rfl <;> rfl
theorem v16_b16 {l : List Int} (h : l.length = 16) : lval b16 l = v16 l := by
  match l, h with
  | [a0, a1, a2, a3, a4, a5, a6, a7, a8, a9, a10, a11, a12, a13, a14, a15], _ => simp only [b16, lval, v16, B16]
theorem lcar_snoc : ∀ {bs l : List Int} (b x c : Int), l.length = bs.length → lcar (bs ++ [b]) c (l ++ [x]) = ((lcar bs c l).1 ++ [(x + (lcar bs c l).2) % b], (x + (lcar bs c l).2) / b)
  | [], [], b, x, c, _ => rfl
  | [], _ :: _, _, _, _, h => by cases h
  | _ :: _, [], _, _, _, h => by cases h
  | b' :: bs, y :: l, b, x, c, h => by
    simp only [List.cons_append, lcar]
    rw [lcar_snoc b x _ (by simpa using h)]
/-- A turn of the specification's carry. -/
def scar (l : List Int) : List Int := addH (38 * (lcar b16 0 l).2) (lcar b16 0 l).1
theorem addH_v16 (d : Int) {l : List Int} (h : l.length = 16) : v16 (addH d l) = v16 l + d := by rw [← v16_fb (by rw [addH_len]; exact h), addH_val d h, v16_fb h]
theorem scar_len {l : List Int} (h : l.length = 16) : (scar l).length = 16 := by unfold scar; rw [addH_len]; exact lcar_len 0 h
theorem scar_val {l : List Int} (h : l.length = 16) : v16 (scar l) = v16 l % 115792089237316195423570985008687907853269984665640564039457584007913129639936 + 38 * (v16 l / 115792089237316195423570985008687907853269984665640564039457584007913129639936) := by
  have o := lcar_over (bs := b16) 0 b16_pos h
  have hl := lcar_len (bs := b16) 0 h
  rw [v16_b16 h, v16_b16 hl, b16_all, Int.add_zero] at o
  unfold scar
  rw [addH_v16 _ hl, o.2, o.1]
theorem scar_mod {l : List Int} (h : l.length = 16) : v16 (scar l) % fp = v16 l % fp := by
  rw [scar_val h]
  generalize v16 l = a
  unfold fp
  omega
/-- The carry, limb by limb. -/
def sco (l : List Int) (k : Nat) : Int := (lcar (b16.take k) 0 (l.take k)).2
def sck (l : List Int) (k : Nat) : List Int := (lcar (b16.take k) 0 (l.take k)).1 ++ addH (sco l k) (l.drop k)
theorem sck_fst {l : List Int} {k : Nat} (hl : l.length = 16) (hk : k ≤ 16) : (lcar (b16.take k) 0 (l.take k)).1.length = k := by
  rw [lcar_len _ (by rw [List.length_take, List.length_take, hl]; rfl), List.length_take]
  show min k 16 = k; omega
theorem sck_len {l : List Int} {k : Nat} (hl : l.length = 16) (hk : k ≤ 16) : (sck l k).length = 16 := by
  unfold sck
  rw [List.length_append, sck_fst hl hk, addH_len, List.length_drop]; omega
theorem drop_cons {l : List Int} {k : Nat} (h : k < l.length) : l.drop k = l.getD k 0 :: l.drop (k + 1) := by
  rw [List.drop_eq_getElem_cons h, List.getD_eq_getElem?_getD, List.getElem?_eq_getElem h]; rfl
theorem getD_append_here (p : List Int) (x : Int) (r : List Int) : (p ++ x :: r).getD p.length 0 = x := by
  rw [List.getD_eq_getElem?_getD, List.getElem?_append_right (Nat.le_refl _), Nat.sub_self]; rfl
theorem getD_append_next (p : List Int) (x y : Int) (r : List Int) : (p ++ x :: y :: r).getD (p.length + 1) 0 = y := by
  rw [List.getD_eq_getElem?_getD, List.getElem?_append_right (by omega), show p.length + 1 - p.length = 1 by omega]; rfl
theorem sck_at {l : List Int} {k : Nat} (hl : l.length = 16) (hk : k < 16) : (sck l k).getD k 0 = l.getD k 0 + sco l k := by
  have h := getD_append_here (lcar (b16.take k) 0 (l.take k)).1 (l.getD k 0 + sco l k) (l.drop (k + 1))
  rw [sck_fst hl (by omega)] at h
  unfold sck
  rw [drop_cons (by omega)]
  exact h
theorem sck_next {l : List Int} {k : Nat} (hl : l.length = 16) (hk : k < 15) : (sck l k).getD (k + 1) 0 = l.getD (k + 1) 0 := by
  have h := getD_append_next (lcar (b16.take k) 0 (l.take k)).1 (l.getD k 0 + sco l k) (l.getD (k + 1) 0) (l.drop (k + 1 + 1))
  rw [sck_fst hl (by omega)] at h
  unfold sck
  rw [drop_cons (by omega), drop_cons (k := k + 1) (by omega)]
  exact h
theorem sco_next {l : List Int} {k : Nat} (hl : l.length = 16) (hk : k < 16) : sco l (k + 1) = (l.getD k 0 + sco l k) / 65536 ∧ (lcar (b16.take (k + 1)) 0 (l.take (k + 1))).1 = (lcar (b16.take k) 0 (l.take k)).1 ++ [(l.getD k 0 + sco l k) % 65536] := by
  have e1 := take_snoc (l := l) (k := k) (by omega)
  have e2 := take_snoc (l := b16) (k := k) (by show k < 16; omega)
  rw [b16_at hk] at e2
  have hq : (l.take k).length = (b16.take k).length := by rw [List.length_take, List.length_take, hl]; rfl
  have e3 := lcar_snoc 65536 (l.getD k 0) 0 hq
  unfold sco
  rw [e1, e2, e3]
  exact ⟨rfl, rfl⟩
theorem set_here (p : List Int) (x z : Int) (r : List Int) : (p ++ x :: r).set p.length z = p ++ z :: r := by
  rw [List.set_append_right _ _ (Nat.le_refl _), Nat.sub_self]; rfl
theorem set_next (p : List Int) (x y z : Int) (r : List Int) : (p ++ x :: y :: r).set (p.length + 1) z = p ++ x :: z :: r := by
  rw [List.set_append_right _ _ (by omega), show p.length + 1 - p.length = 1 by omega]; rfl
theorem sck_step {l : List Int} {k : Nat} (hl : l.length = 16) (hk : k < 15) (t : Int) :
    ((((sck l k).set k t).set (k + 1) (l.getD (k + 1) 0 + (l.getD k 0 + sco l k) / 65536)).set k ((l.getD k 0 + sco l k) % 65536)) = sck l (k + 1) := by
  obtain ⟨h1, h2⟩ := sco_next hl (show k < 16 by omega)
  have hf := sck_fst hl (show k ≤ 16 by omega)
  have hs : sck l (k + 1) = (lcar (b16.take k) 0 (l.take k)).1 ++ (l.getD k 0 + sco l k) % 65536 :: (l.getD (k + 1) 0 + (l.getD k 0 + sco l k) / 65536) :: l.drop (k + 1 + 1) := by
    unfold sck
    rw [h2, h1, drop_cons (k := k + 1) (by omega)]
    simp [addH]
  rw [hs]
  have hd : sck l k = (lcar (b16.take k) 0 (l.take k)).1 ++ (l.getD k 0 + sco l k) :: l.getD (k + 1) 0 :: l.drop (k + 1 + 1) := by
    unfold sck
    rw [drop_cons (k := k) (by omega), drop_cons (k := k + 1) (by omega)]; rfl
  rw [hd]
  generalize (lcar (b16.take k) 0 (l.take k)).1 = p at hf
  subst hf
  rw [set_here, set_next, set_here]
theorem sck_start (l : List Int) : sck l 0 = l ∧ sco l 0 = 0 := by
  constructor
  · unfold sck sco
    show addH 0 l = l
    cases l with
    | nil => rfl
    | cons x l => simp [addH]
  · rfl
theorem sck_last {l : List Int} (hl : l.length = 16) (t : Int) :
    ((((sck l 15).set 15 t).set 0 ((sck l 15).getD 0 0 + 38 * ((l.getD 15 0 + sco l 15) / 65536))).set 15 ((l.getD 15 0 + sco l 15) % 65536)) = scar l := by
  obtain ⟨h1, h2⟩ := sco_next hl (show 15 < 16 by omega)
  have hf := sck_fst hl (show 15 ≤ 16 by omega)
  have e16 : (lcar b16 0 l) = (lcar (b16.take 16) 0 (l.take 16)) := by rw [List.take_of_length_le (show l.length ≤ 16 by omega)]; rfl
  have hs : scar l = addH (38 * ((l.getD 15 0 + sco l 15) / 65536)) ((lcar (b16.take 15) 0 (l.take 15)).1 ++ [(l.getD 15 0 + sco l 15) % 65536]) := by
    unfold scar
    rw [e16, h2, show (lcar (b16.take 16) 0 (l.take 16)).2 = (l.getD 15 0 + sco l 15) / 65536 from h1]
  have hd : sck l 15 = (lcar (b16.take 15) 0 (l.take 15)).1 ++ [l.getD 15 0 + sco l 15] := by
    unfold sck
    rw [drop_cons (k := 15) (by omega), List.drop_of_length_le (show l.length ≤ 15 + 1 by omega)]; rfl
  rw [hs, hd]
  generalize (lcar (b16.take 15) 0 (l.take 15)).1 = p at hf
  match p, hf with
  | [a0, a1, a2, a3, a4, a5, a6, a7, a8, a9, a10, a11, a12, a13, a14], _ => rfl
/-- All limbs within 16 bits are a number of 256 bits. -/
theorem lok16 {l : List Int} (h : lok b16 l) : 0 ≤ v16 l ∧ v16 l < 115792089237316195423570985008687907853269984665640564039457584007913129639936 := by
  have hl : l.length = 16 := lok_len h
  have a := lval_low h
  have b := lval_lt h
  rw [v16_b16 hl] at a b
  rw [b16_all] at b
  exact ⟨a, b⟩
theorem scar_fst {l : List Int} (h : l.length = 16) : ∃ m q, scar l = addH (38 * q) m ∧ lok b16 m ∧ v16 m = v16 l % 115792089237316195423570985008687907853269984665640564039457584007913129639936 ∧ q = v16 l / 115792089237316195423570985008687907853269984665640564039457584007913129639936 := by
  have o := lcar_over (bs := b16) 0 b16_pos h
  have hl := lcar_len (bs := b16) 0 h
  rw [v16_b16 h, v16_b16 hl, b16_all, Int.add_zero] at o
  exact ⟨_, _, rfl, lcar_ok 0 b16_pos h, o.2, o.1⟩
def LIM : Int := 140737488355328
theorem v16_bd {l : List Int} (h : l.length = 16) (hw : within (-LIM) LIM l) : -497323236409786642155382248146820840100456150797347717440463976893159497012533375533056 ≤ v16 l ∧ v16 l ≤ 497323236409786642155382248146820840100456150797347717440463976893159497012533375533056 := by
  match l, h, hw with
  | [a0, a1, a2, a3, a4, a5, a6, a7, a8, a9, a10, a11, a12, a13, a14, a15], _, hw =>
    have h0 := hw 0 (by simp)
    have h1 := hw 1 (by simp)
    have h2 := hw 2 (by simp)
    have h3 := hw 3 (by simp)
    have h4 := hw 4 (by simp)
    have h5 := hw 5 (by simp)
    have h6 := hw 6 (by simp)
    have h7 := hw 7 (by simp)
    have h8 := hw 8 (by simp)
    have h9 := hw 9 (by simp)
    have h10 := hw 10 (by simp)
    have h11 := hw 11 (by simp)
    have h12 := hw 12 (by simp)
    have h13 := hw 13 (by simp)
    have h14 := hw 14 (by simp)
    have h15 := hw 15 (by simp)
    simp only [List.getD_cons_zero, List.getD_cons_succ, LIM] at h0 h1 h2 h3 h4 h5 h6 h7 h8 h9 h10 h11 h12 h13 h14 h15
    simp only [v16, B16]
    omega
theorem addH_head {d : Int} {l : List Int} (h : l.length = 16) : (addH d l).getD 0 0 = l.getD 0 0 + d ∧ ∀ k, 0 < k → (addH d l).getD k 0 = l.getD k 0 := by
  cases l with
  | nil => cases h
  | cons x l =>
    refine ⟨rfl, fun k hk => ?_⟩
    cases k with
    | zero => omega
    | succ k => rfl
theorem lok16_in {l : List Int} (h : lok b16 l) : within 0 65535 l := by
  intro k hk
  have hs := lok_small (by decide) h (l.getD k 0) (by rw [List.getD_eq_getElem?_getD, List.getElem?_eq_getElem hk]; exact List.getElem_mem hk)
  omega
theorem addH_lok {l : List Int} {d : Int} (h : lok b16 l) (h1 : 0 ≤ l.getD 0 0 + d) (h2 : l.getD 0 0 + d < 65536) : lok b16 (addH d l) := by
  cases l with
  | nil => cases h
  | cons x l => exact ⟨h1, h2, h.2.2⟩
theorem lok_cons {x : Int} {l : List Int} (h : lok b16 (x :: l)) : 0 ≤ v16 l ∧ v16 l ≤ 1766847064778384329583297500742918515827483896875618958121606201292619775 := by
  have hl : l.length = 15 := by have := lok_len h; simpa [b16] using this
  have a := lval_low h.2.2
  have b := lval_lt h.2.2
  have e : lval [65536, 65536, 65536, 65536, 65536, 65536, 65536, 65536, 65536, 65536, 65536, 65536, 65536, 65536, 65536] l = v16 l := by
    match l, hl with
    | [a0, a1, a2, a3, a4, a5, a6, a7, a8, a9, a10, a11, a12, a13, a14], _ => simp only [lval, v16, B16]
  have e2 : lall [65536, 65536, 65536, 65536, 65536, 65536, 65536, 65536, 65536, 65536, 65536, 65536, 65536, 65536, 65536] = 1766847064778384329583297500742918515827483896875618958121606201292619776 := by decide
  rw [e] at a b
  rw [e2] at b
  exact ⟨a, by omega⟩
theorem two_turns {l : List Int} (h : l.length = 16) (hw : within (-LIM) LIM l) : ∃ m q, scar (scar l) = addH (38 * q) m ∧ lok b16 m ∧ -1 ≤ q ∧ q ≤ 1 := by
  obtain ⟨m1, q1, e1, k1, u1, g1⟩ := scar_fst h
  obtain ⟨m2, q2, e2, k2, u2, g2⟩ := scar_fst (scar_len h)
  have hb := v16_bd h hw
  have hm := lok16 k1
  have hv : v16 (scar l) = v16 m1 + 38 * q1 := by rw [e1, addH_v16 _ (lok_len k1)]
  rw [hv] at g2
  refine ⟨m2, q2, e2, k2, ?_, ?_⟩ <;> omega
theorem two_in {l : List Int} (h : l.length = 16) (hw : within (-LIM) LIM l) : within (-38) 65573 (scar (scar l)) := by
  obtain ⟨m, q, e, k, h1, h2⟩ := two_turns h hw
  rw [e]
  have hl := lok_len k
  have hh := addH_head (d := 38 * q) hl
  have hi := lok16_in k
  intro j hj
  rw [addH_len] at hj
  by_cases h0 : j = 0
  · subst h0
    rw [hh.1]
    have := hi 0 hj
    omega
  · rw [hh.2 j (by omega)]
    have := hi j hj
    omega
theorem three_turns {l : List Int} (h : l.length = 16) (hw : within (-LIM) LIM l) : lok b16 (scar (scar (scar l))) := by
  obtain ⟨m2, q2, e2, k2, h1, h2⟩ := two_turns h hw
  obtain ⟨m3, q3, e3, k3, u3, g3⟩ := scar_fst (scar_len (scar_len h))
  have hm := lok16 k2
  have hv : v16 (scar (scar l)) = v16 m2 + 38 * q2 := by rw [e2, addH_v16 _ (lok_len k2)]
  rw [hv] at u3 g3
  have hi := lok16_in k3 0 (by rw [lok_len k3]; decide)
  rw [e3]
  match m3, k3, u3, hi with
  | [], k3, _, _ => cases k3
  | x :: r, k3, u3, hi =>
    have hr := lok_cons k3
    have hx : v16 (x :: r) = x + 65536 * v16 r := rfl
    rw [hx] at u3
    rw [List.getD_cons_zero] at hi
    refine addH_lok k3 ?_ ?_ <;> rw [List.getD_cons_zero] <;> omega
theorem three_mod {l : List Int} (h : l.length = 16) : v16 (scar (scar (scar l))) % fp = v16 l % fp := by
  rw [scar_mod (scar_len (scar_len h)), scar_mod (scar_len h), scar_mod h]
end Go.Proofs.Ytjhglbdknjoeeaa
