/- The modulus taken away from limbs, plain mathematics. -/
import Derived.Test.YtjhglbdknjoeeaaSpcP
namespace Go.Proofs.Ytjhglbdknjoeeaa
/-- A row of sixteen by a function. -/
def fL (f : Nat → Int) : List Int := (List.range 16).map f
theorem fL_len (f : Nat → Int) : (fL f).length = 16 := by simp [fL]
theorem fL_at (f : Nat → Int) {i : Nat} (h : i < 16) : (fL f).getD i 0 = f i := by
  simp [fL, List.getD, List.getElem?_map, List.getElem?_range h]
def updI (f : Nat → Int) (i : Nat) (x : Int) : Nat → Int := fun j => if j = i then x else f j
theorem fL_ext {f g : Nat → Int} (h : ∀ i, i < 16 → f i = g i) : fL f = fL g := by
  unfold fL
  apply List.map_congr_left
  intro i hi
  exact h i (List.mem_range.1 hi)
theorem fL_set (f : Nat → Int) {i : Nat} (h : i < 16) (x : Int) : (fL f).set i x = fL (updI f i x) := by
  refine list_ext (by rw [List.length_set, fL_len, fL_len]) (fun k hk => ?_)
  rw [List.length_set, fL_len] at hk
  rw [fL_at _ hk]
  unfold updI
  by_cases e : k = i
  · subst e
    rw [if_pos rfl, List.getD_eq_getElem?_getD, List.getElem?_set_self (by rw [fL_len]; exact hk)]; rfl
  · rw [if_neg e, List.getD_eq_getElem?_getD, List.getElem?_set_ne (Ne.symm e), ← List.getD_eq_getElem?_getD, fL_at _ hk]
/-- What is left of limb i when the modulus is taken away, with what is borrowed. -/
def raw (t : List Int) : Nat → Int
  | 0 => t.getD 0 0 - 65517
  | i + 1 => t.getD (i + 1) 0 - (if i + 1 = 15 then 32767 else 65535) + raw t i / 65536
theorem raw_bd {t : List Int} (ht : within 0 65535 t) (hl : t.length = 16) : ∀ i, i < 16 → -65536 ≤ raw t i ∧ raw t i ≤ 65535
  | 0, _ => by have := ht 0 (by omega); unfold raw; omega
  | i + 1, h => by
    have h1 := ht (i + 1) (by omega)
    have h2 := raw_bd ht hl i (by omega)
    unfold raw
    split <;> omega
/-- The limbs, once i of them are done. -/
def lesK (t : List Int) (k : Nat) : List Int := fL fun j => if j < k then raw t j % 65536 else if j = k then raw t j else 0
theorem lesK_len (t : List Int) (k : Nat) : (lesK t k).length = 16 := fL_len _
theorem lesK_at (t : List Int) {k : Nat} (h : k < 16) : (lesK t k).getD k 0 = raw t k := by
  unfold lesK
  rw [fL_at _ h, if_neg (by omega), if_pos rfl]
theorem lesK_step (t : List Int) {k : Nat} (h : k < 15) : ((lesK t k).set (k + 1) (raw t (k + 1))).set k (raw t k % 65536) = lesK t (k + 1) := by
  unfold lesK
  rw [fL_set _ (by omega), fL_set _ (by omega)]
  refine fL_ext (fun i hi => ?_)
  unfold updI
  by_cases h1 : i = k
  · subst h1; rw [if_pos rfl, if_pos (by omega)]
  · rw [if_neg h1]
    by_cases h2 : i = k + 1
    · subst h2; rw [if_pos rfl, if_neg (by omega), if_pos rfl]
    · rw [if_neg h2]
      simp only []
      by_cases h3 : i < k
      · rw [if_pos h3, if_pos (by omega)]
      · rw [if_neg h3, if_neg h1, if_neg (by omega), if_neg h2]
theorem lesK_start (t : List Int) : (List.replicate 16 (0 : Int)).set 0 (raw t 0) = lesK t 0 := by
  unfold lesK
  refine list_ext (by rw [List.length_set, fL_len, List.length_replicate]) (fun k hk => ?_)
  rw [List.length_set, List.length_replicate] at hk
  rw [fL_at _ hk, if_neg (by omega)]
  by_cases e : k = 0
  · subst e; rw [if_pos rfl]; rfl
  · rw [if_neg e, List.getD_eq_getElem?_getD, List.getElem?_set_ne (Ne.symm e), List.getElem?_replicate, if_pos hk]; rfl
def less (t : List Int) : List Int := lesK t 15
theorem less_len (t : List Int) : (less t).length = 16 := fL_len _
theorem less_val {t : List Int} (hl : t.length = 16) : v16 (less t) = v16 t - fp := by
  match t, hl with
  | [a0, a1, a2, a3, a4, a5, a6, a7, a8, a9, a10, a11, a12, a13, a14, a15], _ =>
    have e : less [a0, a1, a2, a3, a4, a5, a6, a7, a8, a9, a10, a11, a12, a13, a14, a15] = [raw [a0, a1, a2, a3, a4, a5, a6, a7, a8, a9, a10, a11, a12, a13, a14, a15] 0 % 65536, raw [a0, a1, a2, a3, a4, a5, a6, a7, a8, a9, a10, a11, a12, a13, a14, a15] 1 % 65536, raw [a0, a1, a2, a3, a4, a5, a6, a7, a8, a9, a10, a11, a12, a13, a14, a15] 2 % 65536, raw [a0, a1, a2, a3, a4, a5, a6, a7, a8, a9, a10, a11, a12, a13, a14, a15] 3 % 65536, raw [a0, a1, a2, a3, a4, a5, a6, a7, a8, a9, a10, a11, a12, a13, a14, a15] 4 % 65536, raw [a0, a1, a2, a3, a4, a5, a6, a7, a8, a9, a10, a11, a12, a13, a14, a15] 5 % 65536, raw [a0, a1, a2, a3, a4, a5, a6, a7, a8, a9, a10, a11, a12, a13, a14, a15] 6 % 65536, raw [a0, a1, a2, a3, a4, a5, a6, a7, a8, a9, a10, a11, a12, a13, a14, a15] 7 % 65536, raw [a0, a1, a2, a3, a4, a5, a6, a7, a8, a9, a10, a11, a12, a13, a14, a15] 8 % 65536, raw [a0, a1, a2, a3, a4, a5, a6, a7, a8, a9, a10, a11, a12, a13, a14, a15] 9 % 65536, raw [a0, a1, a2, a3, a4, a5, a6, a7, a8, a9, a10, a11, a12, a13, a14, a15] 10 % 65536, raw [a0, a1, a2, a3, a4, a5, a6, a7, a8, a9, a10, a11, a12, a13, a14, a15] 11 % 65536, raw [a0, a1, a2, a3, a4, a5, a6, a7, a8, a9, a10, a11, a12, a13, a14, a15] 12 % 65536, raw [a0, a1, a2, a3, a4, a5, a6, a7, a8, a9, a10, a11, a12, a13, a14, a15] 13 % 65536, raw [a0, a1, a2, a3, a4, a5, a6, a7, a8, a9, a10, a11, a12, a13, a14, a15] 14 % 65536, raw [a0, a1, a2, a3, a4, a5, a6, a7, a8, a9, a10, a11, a12, a13, a14, a15] 15] := rfl
    rw [e]
    have r0 : raw [a0, a1, a2, a3, a4, a5, a6, a7, a8, a9, a10, a11, a12, a13, a14, a15] 0 = a0 - 65517 := rfl
    have r1 : raw [a0, a1, a2, a3, a4, a5, a6, a7, a8, a9, a10, a11, a12, a13, a14, a15] 1 = a1 - 65535 + raw [a0, a1, a2, a3, a4, a5, a6, a7, a8, a9, a10, a11, a12, a13, a14, a15] 0 / 65536 := rfl
    have r2 : raw [a0, a1, a2, a3, a4, a5, a6, a7, a8, a9, a10, a11, a12, a13, a14, a15] 2 = a2 - 65535 + raw [a0, a1, a2, a3, a4, a5, a6, a7, a8, a9, a10, a11, a12, a13, a14, a15] 1 / 65536 := rfl
    have r3 : raw [a0, a1, a2, a3, a4, a5, a6, a7, a8, a9, a10, a11, a12, a13, a14, a15] 3 = a3 - 65535 + raw [a0, a1, a2, a3, a4, a5, a6, a7, a8, a9, a10, a11, a12, a13, a14, a15] 2 / 65536 := rfl
    have r4 : raw [a0, a1, a2, a3, a4, a5, a6, a7, a8, a9, a10, a11, a12, a13, a14, a15] 4 = a4 - 65535 + raw [a0, a1, a2, a3, a4, a5, a6, a7, a8, a9, a10, a11, a12, a13, a14, a15] 3 / 65536 := rfl
    have r5 : raw [a0, a1, a2, a3, a4, a5, a6, a7, a8, a9, a10, a11, a12, a13, a14, a15] 5 = a5 - 65535 + raw [a0, a1, a2, a3, a4, a5, a6, a7, a8, a9, a10, a11, a12, a13, a14, a15] 4 / 65536 := rfl
    have r6 : raw [a0, a1, a2, a3, a4, a5, a6, a7, a8, a9, a10, a11, a12, a13, a14, a15] 6 = a6 - 65535 + raw [a0, a1, a2, a3, a4, a5, a6, a7, a8, a9, a10, a11, a12, a13, a14, a15] 5 / 65536 := rfl
    have r7 : raw [a0, a1, a2, a3, a4, a5, a6, a7, a8, a9, a10, a11, a12, a13, a14, a15] 7 = a7 - 65535 + raw [a0, a1, a2, a3, a4, a5, a6, a7, a8, a9, a10, a11, a12, a13, a14, a15] 6 / 65536 := rfl
    have r8 : raw [a0, a1, a2, a3, a4, a5, a6, a7, a8, a9, a10, a11, a12, a13, a14, a15] 8 = a8 - 65535 + raw [a0, a1, a2, a3, a4, a5, a6, a7, a8, a9, a10, a11, a12, a13, a14, a15] 7 / 65536 := rfl
    have r9 : raw [a0, a1, a2, a3, a4, a5, a6, a7, a8, a9, a10, a11, a12, a13, a14, a15] 9 = a9 - 65535 + raw [a0, a1, a2, a3, a4, a5, a6, a7, a8, a9, a10, a11, a12, a13, a14, a15] 8 / 65536 := rfl
    have r10 : raw [a0, a1, a2, a3, a4, a5, a6, a7, a8, a9, a10, a11, a12, a13, a14, a15] 10 = a10 - 65535 + raw [a0, a1, a2, a3, a4, a5, a6, a7, a8, a9, a10, a11, a12, a13, a14, a15] 9 / 65536 := rfl
    have r11 : raw [a0, a1, a2, a3, a4, a5, a6, a7, a8, a9, a10, a11, a12, a13, a14, a15] 11 = a11 - 65535 + raw [a0, a1, a2, a3, a4, a5, a6, a7, a8, a9, a10, a11, a12, a13, a14, a15] 10 / 65536 := rfl
    have r12 : raw [a0, a1, a2, a3, a4, a5, a6, a7, a8, a9, a10, a11, a12, a13, a14, a15] 12 = a12 - 65535 + raw [a0, a1, a2, a3, a4, a5, a6, a7, a8, a9, a10, a11, a12, a13, a14, a15] 11 / 65536 := rfl
    have r13 : raw [a0, a1, a2, a3, a4, a5, a6, a7, a8, a9, a10, a11, a12, a13, a14, a15] 13 = a13 - 65535 + raw [a0, a1, a2, a3, a4, a5, a6, a7, a8, a9, a10, a11, a12, a13, a14, a15] 12 / 65536 := rfl
    have r14 : raw [a0, a1, a2, a3, a4, a5, a6, a7, a8, a9, a10, a11, a12, a13, a14, a15] 14 = a14 - 65535 + raw [a0, a1, a2, a3, a4, a5, a6, a7, a8, a9, a10, a11, a12, a13, a14, a15] 13 / 65536 := rfl
    have r15 : raw [a0, a1, a2, a3, a4, a5, a6, a7, a8, a9, a10, a11, a12, a13, a14, a15] 15 = a15 - 32767 + raw [a0, a1, a2, a3, a4, a5, a6, a7, a8, a9, a10, a11, a12, a13, a14, a15] 14 / 65536 := rfl
    generalize raw [a0, a1, a2, a3, a4, a5, a6, a7, a8, a9, a10, a11, a12, a13, a14, a15] 0 = x0 at *
    generalize raw [a0, a1, a2, a3, a4, a5, a6, a7, a8, a9, a10, a11, a12, a13, a14, a15] 1 = x1 at *
    generalize raw [a0, a1, a2, a3, a4, a5, a6, a7, a8, a9, a10, a11, a12, a13, a14, a15] 2 = x2 at *
    generalize raw [a0, a1, a2, a3, a4, a5, a6, a7, a8, a9, a10, a11, a12, a13, a14, a15] 3 = x3 at *
    generalize raw [a0, a1, a2, a3, a4, a5, a6, a7, a8, a9, a10, a11, a12, a13, a14, a15] 4 = x4 at *
    generalize raw [a0, a1, a2, a3, a4, a5, a6, a7, a8, a9, a10, a11, a12, a13, a14, a15] 5 = x5 at *
    generalize raw [a0, a1, a2, a3, a4, a5, a6, a7, a8, a9, a10, a11, a12, a13, a14, a15] 6 = x6 at *
    generalize raw [a0, a1, a2, a3, a4, a5, a6, a7, a8, a9, a10, a11, a12, a13, a14, a15] 7 = x7 at *
    generalize raw [a0, a1, a2, a3, a4, a5, a6, a7, a8, a9, a10, a11, a12, a13, a14, a15] 8 = x8 at *
    generalize raw [a0, a1, a2, a3, a4, a5, a6, a7, a8, a9, a10, a11, a12, a13, a14, a15] 9 = x9 at *
    generalize raw [a0, a1, a2, a3, a4, a5, a6, a7, a8, a9, a10, a11, a12, a13, a14, a15] 10 = x10 at *
    generalize raw [a0, a1, a2, a3, a4, a5, a6, a7, a8, a9, a10, a11, a12, a13, a14, a15] 11 = x11 at *
    generalize raw [a0, a1, a2, a3, a4, a5, a6, a7, a8, a9, a10, a11, a12, a13, a14, a15] 12 = x12 at *
    generalize raw [a0, a1, a2, a3, a4, a5, a6, a7, a8, a9, a10, a11, a12, a13, a14, a15] 13 = x13 at *
    generalize raw [a0, a1, a2, a3, a4, a5, a6, a7, a8, a9, a10, a11, a12, a13, a14, a15] 14 = x14 at *
    generalize raw [a0, a1, a2, a3, a4, a5, a6, a7, a8, a9, a10, a11, a12, a13, a14, a15] 15 = x15 at *
    clear e
    simp only [v16, B16]
    unfold fp
    omega
/-- What stands ahead of the last limb is a number of 240 bits. -/
theorem less_low (t : List Int) : ∃ r, v16 (less t) = r + 1766847064778384329583297500742918515827483896875618958121606201292619776 * raw t 15 ∧ 0 ≤ r ∧ r < 1766847064778384329583297500742918515827483896875618958121606201292619776 := by
  have e : less t = [raw t 0 % 65536, raw t 1 % 65536, raw t 2 % 65536, raw t 3 % 65536, raw t 4 % 65536, raw t 5 % 65536, raw t 6 % 65536, raw t 7 % 65536, raw t 8 % 65536, raw t 9 % 65536, raw t 10 % 65536, raw t 11 % 65536, raw t 12 % 65536, raw t 13 % 65536, raw t 14 % 65536, raw t 15] := rfl
  rw [e]
  simp only [v16, B16]
  exact ⟨raw t 0 % 65536 + 65536 * (raw t 1 % 65536 + 65536 * (raw t 2 % 65536 + 65536 * (raw t 3 % 65536 + 65536 * (raw t 4 % 65536 + 65536 * (raw t 5 % 65536 + 65536 * (raw t 6 % 65536 + 65536 * (raw t 7 % 65536 + 65536 * (raw t 8 % 65536 + 65536 * (raw t 9 % 65536 + 65536 * (raw t 10 % 65536 + 65536 * (raw t 11 % 65536 + 65536 * (raw t 12 % 65536 + 65536 * (raw t 13 % 65536 + 65536 * (raw t 14 % 65536)))))))))))))), by omega, by omega, by omega⟩
theorem less_neg {t : List Int} (hl : t.length = 16) : raw t 15 < 0 ↔ v16 t < fp := by
  obtain ⟨r, h1, h2, h3⟩ := less_low t
  rw [less_val hl] at h1
  constructor <;> intro h <;> omega
theorem less_ok {t : List Int} (ht : within 0 65535 t) (hl : t.length = 16) (h : 0 ≤ raw t 15) : lok b16 (less t) := by
  have h15 := (raw_bd ht hl 15 (by omega)).2
  have m : ∀ x : Int, 0 ≤ x % 65536 ∧ x % 65536 < 65536 := fun x => by omega
  exact ⟨(m _).1, (m _).2, (m _).1, (m _).2, (m _).1, (m _).2, (m _).1, (m _).2, (m _).1, (m _).2, (m _).1, (m _).2, (m _).1, (m _).2, (m _).1, (m _).2, (m _).1, (m _).2, (m _).1, (m _).2, (m _).1, (m _).2, (m _).1, (m _).2, (m _).1, (m _).2, (m _).1, (m _).2, (m _).1, (m _).2, h, by show raw t 15 < 65536; omega, trivial⟩
theorem lok_fb16 {l : List Int} (h : lok fb l) : lok b16 l := by
  match l, lok_len h with
  | [a0, a1, a2, a3, a4, a5, a6, a7, a8, a9, a10, a11, a12, a13, a14, a15], _ =>
    simp only [lok, fb, b16, and_true] at h ⊢
    omega
theorem canon_of16 {l : List Int} (h : lok b16 l) (hv : v16 l < fp) : l = canon (v16 l) := by
  have h0 := (lok16 h).1
  have hl : l.length = 16 := lok_len h
  refine lval_inj h (lok_fb16 (canon_ok _)) ?_
  rw [v16_b16 hl, v16_b16 (canon_len _), canon_v, Int.emod_eq_of_lt h0 hv]
/-- Taken away when it is there. -/
def lessIf (t : List Int) : List Int := if raw t 15 < 0 then t else less t
theorem lessIf_ok {t : List Int} (ht : lok b16 t) : lok b16 (lessIf t) := by
  unfold lessIf
  split
  · exact ht
  · exact less_ok (lok16_in ht) (lok_len ht) (by omega)
theorem two_less {t : List Int} (ht : lok b16 t) : lessIf (lessIf t) = canon (v16 t) := by
  have k1 := lessIf_ok ht
  have k2 := lessIf_ok k1
  have hl : t.length = 16 := lok_len ht
  have hb := lok16 ht
  have n1 := less_neg hl
  have n2 := less_neg (t := lessIf t) (lok_len k1)
  have e1 : v16 (lessIf t) = if v16 t < fp then v16 t else v16 t - fp := by
    unfold lessIf
    by_cases h : raw t 15 < 0
    · rw [if_pos h, if_pos (n1.1 h)]
    · rw [if_neg h, if_neg (fun e => h (n1.2 e)), less_val hl]
  have e2 : v16 (lessIf (lessIf t)) = if v16 (lessIf t) < fp then v16 (lessIf t) else v16 (lessIf t) - fp := by
    show v16 (if raw (lessIf t) 15 < 0 then lessIf t else less (lessIf t)) = _
    by_cases h : raw (lessIf t) 15 < 0
    · rw [if_pos h, if_pos (n2.1 h)]
    · rw [if_neg h, if_neg (fun e => h (n2.2 e)), less_val (lok_len k1)]
  have e3 : v16 (lessIf (lessIf t)) = v16 t % fp := by
    rw [e2, e1]
    unfold fp
    (repeat' split) <;> omega
  rw [canon_of16 k2 (by rw [e3]; exact Int.emod_lt_of_pos _ (by decide)), e3]
  exact canon_mod (Int.emod_emod_of_dvd _ (Int.dvd_refl _))
theorem okF_spec {t : List Int} (ht : within 0 65535 t) (hl : t.length = 16) : decide (t = canon (v16 t)) = decide (raw t 15 < 0) := by
  rw [Bool.eq_iff_iff, decide_eq_true_iff, decide_eq_true_iff, less_neg hl]
  constructor
  · intro e
    rw [e, canon_v]
    exact Int.emod_lt_of_pos _ (by decide)
  · intro h
    refine canon_of16 ?_ h
    match t, hl, ht with
    | [a0, a1, a2, a3, a4, a5, a6, a7, a8, a9, a10, a11, a12, a13, a14, a15], _, hw =>
      have h0 := hw 0 (by simp)
      have h1 := hw 1 (by simp)
      have h2 := hw 2 (by simp)
      have h3 := hw 3 (by simp)
      have h4 := hw 4 (by simp)
      have h5 := hw 5 (by simp)
      have h6 := hw 6 (by simp)
      have h7 := hw 7 (by simp)
      have h8 := hw 8 (by simp)
      have h9 := hw 9 (by simp)
      have h10 := hw 10 (by simp)
      have h11 := hw 11 (by simp)
      have h12 := hw 12 (by simp)
      have h13 := hw 13 (by simp)
      have h14 := hw 14 (by simp)
      have h15 := hw 15 (by simp)
      simp only [List.getD_cons_zero, List.getD_cons_succ] at h0 h1 h2 h3 h4 h5 h6 h7 h8 h9 h10 h11 h12 h13 h14 h15
      simp only [lok, b16, and_true]
      omega
end Go.Proofs.Ytjhglbdknjoeeaa
