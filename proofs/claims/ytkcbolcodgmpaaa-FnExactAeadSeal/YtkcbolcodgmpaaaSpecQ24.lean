/- The specification's quarter of chapter 24. -/
import Derived.Test.YtkcbolcodgmpaaaSpec24
import Derived.WalkKit
import Derived.WalkLawsBesides
import Derived.WalkSpells
import Derived.BigRegion
import Derived.OrdersHeld
import Derived.Deep.RegionHeld
import Derived.Deep.RegionHeld3
namespace Go.Proofs.Ytkcbolcodgmpaaa
open Go.RowKit Go.PlainAid
set_option maxRecDepth 20000
set_option linter.unusedVariables false
/-- Block g alone was turned, and it has the form it had. -/
structure Gs (w w' : World) (g : Nat) : Prop where
  gb : w.grownBy w' (some g)
  sh : ∀ cs t, w.heap[g]? = some (.cells cs t (0, 0)) → ∃ cs', w'.heap[g]? = some (.cells cs' t (0, 0)) ∧ cs'.size = cs.size
theorem Gs.refl (w : World) (g : Nat) : Gs w w g := ⟨gb_refl _ _, fun cs t h => ⟨cs, h, rfl⟩⟩
theorem Gs.step {w w1 : World} {g : Nat} (h : Gs w w1 g) (x : Nat) (v : Value) : Gs w ((w1.setCell ⟨g, x, none⟩ v).drew) g := by
  refine ⟨gb_trans h.gb (gb_trans (gb_cell _ _ _ _) (gb_drew _ _)), fun cs t hh => ?_⟩
  obtain ⟨cs', h1, h2⟩ := h.sh cs t hh
  exact ⟨_, heap_setCell_same w1 g x _ _ _ h1, by rw [Array.size_setIfInBounds]; exact h2⟩
theorem st_keep {w : World} {g x y : Nat} {u : Value} (v : Value) (hne : x ≠ y) (h : w.cell? ⟨g, y, none⟩ = some u) (hz : w.frozen? ⟨g, x, none⟩ = false) : ((w.setCell ⟨g, x, none⟩ v).drew).cell? ⟨g, y, none⟩ = some u ∧ ((w.setCell ⟨g, x, none⟩ v).drew).frozen? ⟨g, x, none⟩ = false := by
  refine ⟨?_, ?_⟩
  · rw [World.cell?_drew, World.cell?_setCell_other (h := by intro e2; cases e2; exact hne rfl)]; exact h
  · rw [World.frozen?_drew, World.frozen?_setCell]; exact hz
theorem cutN_any (x y : Nat) (w : World) (h : x % 4294967296 = y) : Calls Try.prog 14 #[.int .i64 (x : Int)] w fun e w' => e = .returned (.int .i64 (y : Int)) ∧ w = w' := by
  have := cut_any (x : Int) w
  rw [show (x : Int) % 4294967296 = (y : Int) by omega] at this
  exact this
set_option maxHeartbeats 8000000 in
theorem specQ_any (g n cap : Nat) (f : Nat → Nat) (a b c d : Nat) (w : World) (hf : Words f) (hr : RowC w g .i64 n f) (ha : a < n) (hb : b < n) (hc : c < n) (hd : d < n) (hab : a ≠ b) (hda : d ≠ a) (hcd : c ≠ d) (hbc : b ≠ c) :
    Calls Try.prog 22 #[.slice (some ⟨g, 0, none⟩) n cap, .int .i64 (a : Int), .int .i64 (b : Int), .int .i64 (c : Int), .int .i64 (d : Int)] w
      fun e w' => e = .returned (.tuple #[]) ∧ Gs w w' g ∧ RowC w' g .i64 n (quarter f a b c d) := by
  have haI : (a : Int) < (n : Int) := by omega
  have ha0 : (0 : Int) ≤ (a : Int) := by omega
  have hbI : (b : Int) < (n : Int) := by omega
  have hb0 : (0 : Int) ≤ (b : Int) := by omega
  have hcI : (c : Int) < (n : Int) := by omega
  have hc0 : (0 : Int) ≤ (c : Int) := by omega
  have hdI : (d : Int) < (n : Int) := by omega
  have hd0 : (0 : Int) ≤ (d : Int) := by omega
  obtain ⟨F, HF⟩ : ∃ F, Hid (F = quarter f a b c d) := ⟨_, rfl⟩
  rw [← HF.out]
  have HF2 : Hid (F = addTurn (addTurn (addTurn (addTurn f a b d 16) c d b 12) a b d 8) c d b 7) := HF.out
  clear HF
  have HG : Hid (Gs w w g) := Gs.refl _ _
  have HR : Hid (RowC w g .i64 n f) := hr
  clear hr
  have HNE : Hid (a ≠ b ∧ d ≠ a ∧ c ≠ d ∧ b ≠ c) := ⟨hab, hda, hcd, hbc⟩
  clear hab hda hcd hbc
  go_enter Try.func22, Try.ntmps22
  go_wp2
  have c1 := HR.out.c a ha
  have c2 := HR.out.c b hb
  have z1 := HR.out.z a ha
  have b1 := hf a
  have b2 := hf b
  have hne : Hid (a ≠ b) := fun e => HNE.out.1.symm e.symm
  have hw : IntKind.i64.wrap (((f a : Nat) : Int) + ((f b : Nat) : Int)) = ((f a + f b : Nat) : Int) := by rw [IntKind.wrap_i64]; omega
  obtain ⟨v, HV⟩ : ∃ v, Hid (v = (f a + f b) % 4294967296) := ⟨_, rfl⟩
  have hv : v < 4294967296 := by rw [HV.out]; exact Nat.mod_lt _ (by omega)
  have HC : Hid (∀ wz, Calls Try.prog 14 #[.int .i64 ((f a + f b : Nat) : Int)] wz fun e w' => e = .returned (.int .i64 (v : Int)) ∧ wz = w') := fun wz => cutN_any _ _ wz HV.out.symm
  have HR' : RowC ((w.setCell ⟨g, a, none⟩ (.int .i64 (v : Int))).drew) g .i64 n (upd f a v) := (HR.out.set ha v).drew
  have HG' : Hid (Gs w ((w.setCell ⟨g, a, none⟩ (.int .i64 (v : Int))).drew) g) := HG.out.step _ _
  have hf' := hf.upd a hv
  have HQ : Hid (addTurn f a b d 16 = upd (upd f a v) d (rotl (upd f a v d ^^^ upd f a v a) 16)) := by show _ = _; rw [HV.out]; rfl
  have HF3 := HF2.out
  rw [HQ.out] at HF3
  clear HF2 HQ HV b1 b2 hf HR HG
  generalize f a + f b = sm at hw HC
  refine _root_.Go.wp_region_held (S := fun w' : World => w'.cell? ⟨g, b, none⟩ = some (.int .i64 ((f b : Nat) : Int)) ∧ w'.frozen? ⟨g, a, none⟩ = false) (by kernel_rfl) ?_
  have hS : (fun w' : World => w'.cell? ⟨g, b, none⟩ = some (.int .i64 ((f b : Nat) : Int)) ∧ w'.frozen? ⟨g, a, none⟩ = false) w.drew := ⟨c2, z1⟩
  refine wpAnyH_take (i := 0) (v := ?_) rfl (by kernel_rfl) (by kernel_rfl) (by kernel_rfl) (fun _ _ _ h => h) (Or.inl ⟨by rfl, ?_⟩) hS ?_
  rotate_left
  · intro w hSw; obtain ⟨y1, y2⟩ := hSw; go_simp; try with_reducible rfl
  simp only [Act.put, List.getElem_toArray, List.getElem_cons_zero, List.setIfInBounds_toArray, List.set_cons_succ, List.set_cons_zero]
  refine wpAnyH_take (i := 1) (v := ?_) rfl (by kernel_rfl) (by kernel_rfl) (by kernel_rfl) (fun _ _ _ h => h) (Or.inl ⟨by rfl, ?_⟩) hS ?_
  rotate_left
  · intro w hSw; obtain ⟨y1, y2⟩ := hSw; go_simp; try with_reducible rfl
  simp only [Act.put, List.getElem_toArray, List.getElem_cons_succ, List.getElem_cons_zero, List.setIfInBounds_toArray, List.set_cons_succ, List.set_cons_zero]
  refine wpAnyH_take (i := 2) (v := ?_) rfl (by kernel_rfl) (by kernel_rfl) (by kernel_rfl) (fun _ _ _ h => h) (Or.inl ⟨by rfl, ?_⟩) hS ?_
  rotate_left
  · intro w hSw; obtain ⟨y1, y2⟩ := hSw; go_simp; try with_reducible rfl
  simp only [Act.put, List.getElem_toArray, List.getElem_cons_succ, List.getElem_cons_zero, List.setIfInBounds_toArray, List.set_cons_succ, List.set_cons_zero]
  refine wpAnyH_take (i := 3) (v := ?_) rfl (by kernel_rfl) (by kernel_rfl) (by kernel_rfl) (fun _ _ _ h => h) (Or.inl ⟨by rfl, ?_⟩) hS ?_
  rotate_left
  · intro w hSw; obtain ⟨y1, y2⟩ := hSw; go_simp; try with_reducible rfl
  simp only [Act.put, List.getElem_toArray, List.getElem_cons_succ, List.getElem_cons_zero, List.setIfInBounds_toArray, List.set_cons_succ, List.set_cons_zero]
  refine wpAnyH_take (i := 4) (v := ?_) rfl (by kernel_rfl) (by kernel_rfl) (by kernel_rfl) (fun _ _ _ h => h) (Or.inl ⟨by rfl, ?_⟩) hS ?_
  rotate_left
  · intro w hSw; obtain ⟨y1, y2⟩ := hSw; go_simp; try with_reducible rfl
  simp only [Act.put, List.getElem_toArray, List.getElem_cons_succ, List.getElem_cons_zero, List.setIfInBounds_toArray, List.set_cons_succ, List.set_cons_zero]
  refine wpAnyH_take (i := 6) (v := ?_) rfl (by kernel_rfl) (by kernel_rfl) (by kernel_rfl) (fun _ _ _ h => h) (Or.inl ⟨by rfl, ?_⟩) hS ?_
  rotate_left
  · intro w hSw; obtain ⟨y1, y2⟩ := hSw; go_simp; try with_reducible rfl
  simp only [Act.put, List.getElem_toArray, List.getElem_cons_succ, List.getElem_cons_zero, List.setIfInBounds_toArray, List.set_cons_succ, List.set_cons_zero]
  refine wpAnyH_take (i := 7) (v := ?_) rfl (by kernel_rfl) (by kernel_rfl) (by kernel_rfl) (fun _ _ _ h => h) (Or.inl ⟨by rfl, ?_⟩) hS ?_
  rotate_left
  · intro w hSw; obtain ⟨y1, y2⟩ := hSw; go_simp; try with_reducible rfl
  simp only [Act.put, List.getElem_toArray, List.getElem_cons_succ, List.getElem_cons_zero, List.setIfInBounds_toArray, List.set_cons_succ, List.set_cons_zero]
  refine wpAnyH_take (i := 8) (v := ?_) rfl (by kernel_rfl) (by kernel_rfl) (by kernel_rfl) (fun _ _ _ h => h) (Or.inl ⟨by rfl, ?_⟩) hS ?_
  rotate_left
  · intro w hSw; obtain ⟨y1, y2⟩ := hSw; go_simp; try with_reducible rfl
  simp only [Act.put, List.getElem_toArray, List.getElem_cons_succ, List.getElem_cons_zero, List.setIfInBounds_toArray, List.set_cons_succ, List.set_cons_zero]
  refine wpAnyH_take (i := 9) (v := ?_) rfl (by kernel_rfl) (by kernel_rfl) (by kernel_rfl) (fun _ _ _ h => h) (Or.inl ⟨by rfl, ?_⟩) hS ?_
  rotate_left
  · intro w hSw; obtain ⟨y1, y2⟩ := hSw; go_simp; try with_reducible rfl
  simp only [Act.put, List.getElem_toArray, List.getElem_cons_succ, List.getElem_cons_zero, List.setIfInBounds_toArray, List.set_cons_succ, List.set_cons_zero]
  refine wpAnyH_ready (rs := [5]) (by kernel_rfl) (by simp) ?_
  refine AllReadyH.cons rfl (fun K hK => ?_) AllReadyH.nil
  go_simp
  refine hK.out _ _ ⟨c2, z1⟩ (fun hS => ?_)
  clear hK K
  refine wpAnyH_take (i := 10) (v := ?_) rfl (by kernel_rfl) (by kernel_rfl) (by kernel_rfl) (fun _ _ _ h => h) (Or.inl ⟨by rfl, ?_⟩) hS ?_
  rotate_left
  · intro w hSw; obtain ⟨y1, y2⟩ := hSw; go_simp; try with_reducible rfl
  simp only [Act.put, List.getElem_toArray, List.getElem_cons_succ, List.getElem_cons_zero, List.setIfInBounds_toArray, List.set_cons_succ, List.set_cons_zero]
  refine wpAnyH_ready (rs := [11]) (by kernel_rfl) (by simp) ?_
  refine AllReadyH.cons rfl (fun K hK => ?_) AllReadyH.nil
  go_simp
  refine Calls.mono (HC.out _) ?_
  rintro e wq ⟨rfl, rfl⟩
  refine hK.out _ _ ⟨c2, z1⟩ (fun hS => ?_)
  clear hK K
  refine wpAnyH_take (i := 12) (v := ?_) rfl (by kernel_rfl) (by kernel_rfl) (by kernel_rfl) (fun _ _ _ h => h) (Or.inl ⟨by rfl, ?_⟩) hS ?_
  rotate_left
  · intro w hSw; obtain ⟨y1, y2⟩ := hSw; go_simp; try with_reducible rfl
  simp only [Act.put, List.getElem_toArray, List.getElem_cons_succ, List.getElem_cons_zero, List.setIfInBounds_toArray, List.set_cons_succ, List.set_cons_zero]
  refine wpAnyH_ready (rs := [13]) (by kernel_rfl) (by simp) ?_
  refine AllReadyH.cons rfl (fun K hK => ?_) AllReadyH.nil
  go_simp
  have hS2 : (fun w' : World => w'.cell? ⟨g, b, none⟩ = some (.int .i64 ((f b : Nat) : Int)) ∧ w'.frozen? ⟨g, a, none⟩ = false) ((w.setCell ⟨g, a, none⟩ (.int .i64 (v : Int))).drew) := st_keep _ hne.out c2 z1
  refine hK.out _ _ hS2 (fun hS => ?_)
  clear hK K
  clear hS
  refine wpAnyH_done (by kernel_rfl) ?_ _
  clear c1 c2 z1 hw HC hne hS2
  generalize ((w.setCell ⟨g, a, none⟩ (.int .i64 (v : Int))).drew) = w1 at HR' HG' ⊢
  generalize upd f a v = f1 at HR' hf' HF3
  clear hv
  have HR : Hid (RowC w1 g .i64 n f1) := HR'
  have HG := HG'
  have hf := hf'
  clear HR' HG' hf'
  have c1 := HR.out.c d hd
  have c2 := HR.out.c a ha
  have z1 := HR.out.z d hd
  have hne : Hid (d ≠ a) := fun e => HNE.out.2.1.symm e.symm
  have hx := i64xorN (f1 d) (f1 a) (hf d) (hf a)
  have HX : Hid (f1 d ^^^ f1 a < 4294967296) := xorL (hf d) (hf a)
  generalize f1 d ^^^ f1 a = x at hx HX HF3
  have hv : rotl x 16 < 4294967296 := rotl_lt HX.out _
  have HC : Hid (∀ wz, Calls Try.prog 44 #[.int .i64 (x : Int), .int .u64 16] wz fun e w' => e = .returned (.int .i64 ((rotl x 16 : Nat) : Int)) ∧ wz = w') := fun wz => turnI_any x 16 wz HX.out (by omega) (by omega)
  have hf' := hf.upd d hv
  clear hv
  generalize rotl x 16 = v at HC hf' HF3
  have HR' : RowC ((w1.setCell ⟨g, d, none⟩ (.int .i64 (v : Int))).drew) g .i64 n (upd f1 d v) := (HR.out.set hd v).drew
  have HG' : Hid (Gs w ((w1.setCell ⟨g, d, none⟩ (.int .i64 (v : Int))).drew) g) := HG.out.step _ _
  clear HX hf HR HG
  go_wp2
  refine _root_.Go.wp_region_held (S := fun w' : World => w'.cell? ⟨g, a, none⟩ = some (.int .i64 ((f1 a : Nat) : Int)) ∧ w'.frozen? ⟨g, d, none⟩ = false) (by kernel_rfl) ?_
  have hS : (fun w' : World => w'.cell? ⟨g, a, none⟩ = some (.int .i64 ((f1 a : Nat) : Int)) ∧ w'.frozen? ⟨g, d, none⟩ = false) w1.drew := ⟨c2, z1⟩
  refine wpAnyH_take (i := 0) (v := ?_) rfl (by kernel_rfl) (by kernel_rfl) (by kernel_rfl) (fun _ _ _ h => h) (Or.inl ⟨by rfl, ?_⟩) hS ?_
  rotate_left
  · intro w hSw; obtain ⟨y1, y2⟩ := hSw; go_simp; try with_reducible rfl
  simp only [Act.put, List.getElem_toArray, List.getElem_cons_zero, List.setIfInBounds_toArray, List.set_cons_succ, List.set_cons_zero]
  refine wpAnyH_take (i := 1) (v := ?_) rfl (by kernel_rfl) (by kernel_rfl) (by kernel_rfl) (fun _ _ _ h => h) (Or.inl ⟨by rfl, ?_⟩) hS ?_
  rotate_left
  · intro w hSw; obtain ⟨y1, y2⟩ := hSw; go_simp; try with_reducible rfl
  simp only [Act.put, List.getElem_toArray, List.getElem_cons_succ, List.getElem_cons_zero, List.setIfInBounds_toArray, List.set_cons_succ, List.set_cons_zero]
  refine wpAnyH_take (i := 2) (v := ?_) rfl (by kernel_rfl) (by kernel_rfl) (by kernel_rfl) (fun _ _ _ h => h) (Or.inl ⟨by rfl, ?_⟩) hS ?_
  rotate_left
  · intro w hSw; obtain ⟨y1, y2⟩ := hSw; go_simp; try with_reducible rfl
  simp only [Act.put, List.getElem_toArray, List.getElem_cons_succ, List.getElem_cons_zero, List.setIfInBounds_toArray, List.set_cons_succ, List.set_cons_zero]
  refine wpAnyH_take (i := 3) (v := ?_) rfl (by kernel_rfl) (by kernel_rfl) (by kernel_rfl) (fun _ _ _ h => h) (Or.inl ⟨by rfl, ?_⟩) hS ?_
  rotate_left
  · intro w hSw; obtain ⟨y1, y2⟩ := hSw; go_simp; try with_reducible rfl
  simp only [Act.put, List.getElem_toArray, List.getElem_cons_succ, List.getElem_cons_zero, List.setIfInBounds_toArray, List.set_cons_succ, List.set_cons_zero]
  refine wpAnyH_take (i := 4) (v := ?_) rfl (by kernel_rfl) (by kernel_rfl) (by kernel_rfl) (fun _ _ _ h => h) (Or.inl ⟨by rfl, ?_⟩) hS ?_
  rotate_left
  · intro w hSw; obtain ⟨y1, y2⟩ := hSw; go_simp; try with_reducible rfl
  simp only [Act.put, List.getElem_toArray, List.getElem_cons_succ, List.getElem_cons_zero, List.setIfInBounds_toArray, List.set_cons_succ, List.set_cons_zero]
  refine wpAnyH_take (i := 6) (v := ?_) rfl (by kernel_rfl) (by kernel_rfl) (by kernel_rfl) (fun _ _ _ h => h) (Or.inl ⟨by rfl, ?_⟩) hS ?_
  rotate_left
  · intro w hSw; obtain ⟨y1, y2⟩ := hSw; go_simp; try with_reducible rfl
  simp only [Act.put, List.getElem_toArray, List.getElem_cons_succ, List.getElem_cons_zero, List.setIfInBounds_toArray, List.set_cons_succ, List.set_cons_zero]
  refine wpAnyH_take (i := 7) (v := ?_) rfl (by kernel_rfl) (by kernel_rfl) (by kernel_rfl) (fun _ _ _ h => h) (Or.inl ⟨by rfl, ?_⟩) hS ?_
  rotate_left
  · intro w hSw; obtain ⟨y1, y2⟩ := hSw; go_simp; try with_reducible rfl
  simp only [Act.put, List.getElem_toArray, List.getElem_cons_succ, List.getElem_cons_zero, List.setIfInBounds_toArray, List.set_cons_succ, List.set_cons_zero]
  refine wpAnyH_take (i := 8) (v := ?_) rfl (by kernel_rfl) (by kernel_rfl) (by kernel_rfl) (fun _ _ _ h => h) (Or.inl ⟨by rfl, ?_⟩) hS ?_
  rotate_left
  · intro w hSw; obtain ⟨y1, y2⟩ := hSw; go_simp; try with_reducible rfl
  simp only [Act.put, List.getElem_toArray, List.getElem_cons_succ, List.getElem_cons_zero, List.setIfInBounds_toArray, List.set_cons_succ, List.set_cons_zero]
  refine wpAnyH_take (i := 9) (v := ?_) rfl (by kernel_rfl) (by kernel_rfl) (by kernel_rfl) (fun _ _ _ h => h) (Or.inl ⟨by rfl, ?_⟩) hS ?_
  rotate_left
  · intro w hSw; obtain ⟨y1, y2⟩ := hSw; go_simp; try with_reducible rfl
  simp only [Act.put, List.getElem_toArray, List.getElem_cons_succ, List.getElem_cons_zero, List.setIfInBounds_toArray, List.set_cons_succ, List.set_cons_zero]
  refine wpAnyH_ready (rs := [5]) (by kernel_rfl) (by simp) ?_
  refine AllReadyH.cons rfl (fun K hK => ?_) AllReadyH.nil
  go_simp
  refine hK.out _ _ ⟨c2, z1⟩ (fun hS => ?_)
  clear hK K
  refine wpAnyH_take (i := 10) (v := ?_) rfl (by kernel_rfl) (by kernel_rfl) (by kernel_rfl) (fun _ _ _ h => h) (Or.inl ⟨by rfl, ?_⟩) hS ?_
  rotate_left
  · intro w hSw; obtain ⟨y1, y2⟩ := hSw; go_simp; try with_reducible rfl
  simp only [Act.put, List.getElem_toArray, List.getElem_cons_succ, List.getElem_cons_zero, List.setIfInBounds_toArray, List.set_cons_succ, List.set_cons_zero]
  refine wpAnyH_ready (rs := [11]) (by kernel_rfl) (by simp) ?_
  refine AllReadyH.cons rfl (fun K hK => ?_) AllReadyH.nil
  go_simp
  refine Calls.mono (HC.out _) ?_
  rintro e wq ⟨rfl, rfl⟩
  refine hK.out _ _ ⟨c2, z1⟩ (fun hS => ?_)
  clear hK K
  refine wpAnyH_take (i := 12) (v := ?_) rfl (by kernel_rfl) (by kernel_rfl) (by kernel_rfl) (fun _ _ _ h => h) (Or.inl ⟨by rfl, ?_⟩) hS ?_
  rotate_left
  · intro w hSw; obtain ⟨y1, y2⟩ := hSw; go_simp; try with_reducible rfl
  simp only [Act.put, List.getElem_toArray, List.getElem_cons_succ, List.getElem_cons_zero, List.setIfInBounds_toArray, List.set_cons_succ, List.set_cons_zero]
  refine wpAnyH_ready (rs := [13]) (by kernel_rfl) (by simp) ?_
  refine AllReadyH.cons rfl (fun K hK => ?_) AllReadyH.nil
  go_simp
  have hS2 : (fun w' : World => w'.cell? ⟨g, a, none⟩ = some (.int .i64 ((f1 a : Nat) : Int)) ∧ w'.frozen? ⟨g, d, none⟩ = false) ((w1.setCell ⟨g, d, none⟩ (.int .i64 (v : Int))).drew) := st_keep _ hne.out c2 z1
  refine hK.out _ _ hS2 (fun hS => ?_)
  clear hK K
  clear hS
  refine wpAnyH_done (by kernel_rfl) ?_ _
  clear c1 c2 z1 hx HC hne hS2
  generalize ((w1.setCell ⟨g, d, none⟩ (.int .i64 (v : Int))).drew) = w2 at HR' HG' ⊢
  generalize upd f1 d v = f2 at HR' hf' HF3
  have HR : Hid (RowC w2 g .i64 n f2) := HR'
  have HG := HG'
  have hf := hf'
  have HF2 : Hid _ := HF3
  clear HR' HG' hf' HF3
  go_wp2
  have c1 := HR.out.c c hc
  have c2 := HR.out.c d hd
  have z1 := HR.out.z c hc
  have b1 := hf c
  have b2 := hf d
  have hne : Hid (c ≠ d) := fun e => HNE.out.2.2.1.symm e.symm
  have hw : IntKind.i64.wrap (((f2 c : Nat) : Int) + ((f2 d : Nat) : Int)) = ((f2 c + f2 d : Nat) : Int) := by rw [IntKind.wrap_i64]; omega
  obtain ⟨v, HV⟩ : ∃ v, Hid (v = (f2 c + f2 d) % 4294967296) := ⟨_, rfl⟩
  have hv : v < 4294967296 := by rw [HV.out]; exact Nat.mod_lt _ (by omega)
  have HC : Hid (∀ wz, Calls Try.prog 14 #[.int .i64 ((f2 c + f2 d : Nat) : Int)] wz fun e w' => e = .returned (.int .i64 (v : Int)) ∧ wz = w') := fun wz => cutN_any _ _ wz HV.out.symm
  have HR' : RowC ((w2.setCell ⟨g, c, none⟩ (.int .i64 (v : Int))).drew) g .i64 n (upd f2 c v) := (HR.out.set hc v).drew
  have HG' : Hid (Gs w ((w2.setCell ⟨g, c, none⟩ (.int .i64 (v : Int))).drew) g) := HG.out.step _ _
  have hf' := hf.upd c hv
  have HQ : Hid (addTurn f2 c d b 12 = upd (upd f2 c v) b (rotl (upd f2 c v b ^^^ upd f2 c v c) 12)) := by show _ = _; rw [HV.out]; rfl
  have HF3 := HF2.out
  rw [HQ.out] at HF3
  clear HF2 HQ HV b1 b2 hf HR HG
  generalize f2 c + f2 d = sm at hw HC
  refine _root_.Go.wp_region_held (S := fun w' : World => w'.cell? ⟨g, d, none⟩ = some (.int .i64 ((f2 d : Nat) : Int)) ∧ w'.frozen? ⟨g, c, none⟩ = false) (by kernel_rfl) ?_
  have hS : (fun w' : World => w'.cell? ⟨g, d, none⟩ = some (.int .i64 ((f2 d : Nat) : Int)) ∧ w'.frozen? ⟨g, c, none⟩ = false) w2.drew := ⟨c2, z1⟩
  refine wpAnyH_take (i := 0) (v := ?_) rfl (by kernel_rfl) (by kernel_rfl) (by kernel_rfl) (fun _ _ _ h => h) (Or.inl ⟨by rfl, ?_⟩) hS ?_
  rotate_left
  · intro w hSw; obtain ⟨y1, y2⟩ := hSw; go_simp; try with_reducible rfl
  simp only [Act.put, List.getElem_toArray, List.getElem_cons_zero, List.setIfInBounds_toArray, List.set_cons_succ, List.set_cons_zero]
  refine wpAnyH_take (i := 1) (v := ?_) rfl (by kernel_rfl) (by kernel_rfl) (by kernel_rfl) (fun _ _ _ h => h) (Or.inl ⟨by rfl, ?_⟩) hS ?_
  rotate_left
  · intro w hSw; obtain ⟨y1, y2⟩ := hSw; go_simp; try with_reducible rfl
  simp only [Act.put, List.getElem_toArray, List.getElem_cons_succ, List.getElem_cons_zero, List.setIfInBounds_toArray, List.set_cons_succ, List.set_cons_zero]
  refine wpAnyH_take (i := 2) (v := ?_) rfl (by kernel_rfl) (by kernel_rfl) (by kernel_rfl) (fun _ _ _ h => h) (Or.inl ⟨by rfl, ?_⟩) hS ?_
  rotate_left
  · intro w hSw; obtain ⟨y1, y2⟩ := hSw; go_simp; try with_reducible rfl
  simp only [Act.put, List.getElem_toArray, List.getElem_cons_succ, List.getElem_cons_zero, List.setIfInBounds_toArray, List.set_cons_succ, List.set_cons_zero]
  refine wpAnyH_take (i := 3) (v := ?_) rfl (by kernel_rfl) (by kernel_rfl) (by kernel_rfl) (fun _ _ _ h => h) (Or.inl ⟨by rfl, ?_⟩) hS ?_
  rotate_left
  · intro w hSw; obtain ⟨y1, y2⟩ := hSw; go_simp; try with_reducible rfl
  simp only [Act.put, List.getElem_toArray, List.getElem_cons_succ, List.getElem_cons_zero, List.setIfInBounds_toArray, List.set_cons_succ, List.set_cons_zero]
  refine wpAnyH_take (i := 4) (v := ?_) rfl (by kernel_rfl) (by kernel_rfl) (by kernel_rfl) (fun _ _ _ h => h) (Or.inl ⟨by rfl, ?_⟩) hS ?_
  rotate_left
  · intro w hSw; obtain ⟨y1, y2⟩ := hSw; go_simp; try with_reducible rfl
  simp only [Act.put, List.getElem_toArray, List.getElem_cons_succ, List.getElem_cons_zero, List.setIfInBounds_toArray, List.set_cons_succ, List.set_cons_zero]
  refine wpAnyH_take (i := 6) (v := ?_) rfl (by kernel_rfl) (by kernel_rfl) (by kernel_rfl) (fun _ _ _ h => h) (Or.inl ⟨by rfl, ?_⟩) hS ?_
  rotate_left
  · intro w hSw; obtain ⟨y1, y2⟩ := hSw; go_simp; try with_reducible rfl
  simp only [Act.put, List.getElem_toArray, List.getElem_cons_succ, List.getElem_cons_zero, List.setIfInBounds_toArray, List.set_cons_succ, List.set_cons_zero]
  refine wpAnyH_take (i := 7) (v := ?_) rfl (by kernel_rfl) (by kernel_rfl) (by kernel_rfl) (fun _ _ _ h => h) (Or.inl ⟨by rfl, ?_⟩) hS ?_
  rotate_left
  · intro w hSw; obtain ⟨y1, y2⟩ := hSw; go_simp; try with_reducible rfl
  simp only [Act.put, List.getElem_toArray, List.getElem_cons_succ, List.getElem_cons_zero, List.setIfInBounds_toArray, List.set_cons_succ, List.set_cons_zero]
  refine wpAnyH_take (i := 8) (v := ?_) rfl (by kernel_rfl) (by kernel_rfl) (by kernel_rfl) (fun _ _ _ h => h) (Or.inl ⟨by rfl, ?_⟩) hS ?_
  rotate_left
  · intro w hSw; obtain ⟨y1, y2⟩ := hSw; go_simp; try with_reducible rfl
  simp only [Act.put, List.getElem_toArray, List.getElem_cons_succ, List.getElem_cons_zero, List.setIfInBounds_toArray, List.set_cons_succ, List.set_cons_zero]
  refine wpAnyH_take (i := 9) (v := ?_) rfl (by kernel_rfl) (by kernel_rfl) (by kernel_rfl) (fun _ _ _ h => h) (Or.inl ⟨by rfl, ?_⟩) hS ?_
  rotate_left
  · intro w hSw; obtain ⟨y1, y2⟩ := hSw; go_simp; try with_reducible rfl
  simp only [Act.put, List.getElem_toArray, List.getElem_cons_succ, List.getElem_cons_zero, List.setIfInBounds_toArray, List.set_cons_succ, List.set_cons_zero]
  refine wpAnyH_ready (rs := [5]) (by kernel_rfl) (by simp) ?_
  refine AllReadyH.cons rfl (fun K hK => ?_) AllReadyH.nil
  go_simp
  refine hK.out _ _ ⟨c2, z1⟩ (fun hS => ?_)
  clear hK K
  refine wpAnyH_take (i := 10) (v := ?_) rfl (by kernel_rfl) (by kernel_rfl) (by kernel_rfl) (fun _ _ _ h => h) (Or.inl ⟨by rfl, ?_⟩) hS ?_
  rotate_left
  · intro w hSw; obtain ⟨y1, y2⟩ := hSw; go_simp; try with_reducible rfl
  simp only [Act.put, List.getElem_toArray, List.getElem_cons_succ, List.getElem_cons_zero, List.setIfInBounds_toArray, List.set_cons_succ, List.set_cons_zero]
  refine wpAnyH_ready (rs := [11]) (by kernel_rfl) (by simp) ?_
  refine AllReadyH.cons rfl (fun K hK => ?_) AllReadyH.nil
  go_simp
  refine Calls.mono (HC.out _) ?_
  rintro e wq ⟨rfl, rfl⟩
  refine hK.out _ _ ⟨c2, z1⟩ (fun hS => ?_)
  clear hK K
  refine wpAnyH_take (i := 12) (v := ?_) rfl (by kernel_rfl) (by kernel_rfl) (by kernel_rfl) (fun _ _ _ h => h) (Or.inl ⟨by rfl, ?_⟩) hS ?_
  rotate_left
  · intro w hSw; obtain ⟨y1, y2⟩ := hSw; go_simp; try with_reducible rfl
  simp only [Act.put, List.getElem_toArray, List.getElem_cons_succ, List.getElem_cons_zero, List.setIfInBounds_toArray, List.set_cons_succ, List.set_cons_zero]
  refine wpAnyH_ready (rs := [13]) (by kernel_rfl) (by simp) ?_
  refine AllReadyH.cons rfl (fun K hK => ?_) AllReadyH.nil
  go_simp
  have hS2 : (fun w' : World => w'.cell? ⟨g, d, none⟩ = some (.int .i64 ((f2 d : Nat) : Int)) ∧ w'.frozen? ⟨g, c, none⟩ = false) ((w2.setCell ⟨g, c, none⟩ (.int .i64 (v : Int))).drew) := st_keep _ hne.out c2 z1
  refine hK.out _ _ hS2 (fun hS => ?_)
  clear hK K
  clear hS
  refine wpAnyH_done (by kernel_rfl) ?_ _
  clear c1 c2 z1 hw HC hne hS2
  generalize ((w2.setCell ⟨g, c, none⟩ (.int .i64 (v : Int))).drew) = w3 at HR' HG' ⊢
  generalize upd f2 c v = f3 at HR' hf' HF3
  clear hv
  have HR : Hid (RowC w3 g .i64 n f3) := HR'
  have HG := HG'
  have hf := hf'
  clear HR' HG' hf'
  have c1 := HR.out.c b hb
  have c2 := HR.out.c c hc
  have z1 := HR.out.z b hb
  have hne : Hid (b ≠ c) := fun e => HNE.out.2.2.2.symm e.symm
  have hx := i64xorN (f3 b) (f3 c) (hf b) (hf c)
  have HX : Hid (f3 b ^^^ f3 c < 4294967296) := xorL (hf b) (hf c)
  generalize f3 b ^^^ f3 c = x at hx HX HF3
  have hv : rotl x 12 < 4294967296 := rotl_lt HX.out _
  have HC : Hid (∀ wz, Calls Try.prog 44 #[.int .i64 (x : Int), .int .u64 12] wz fun e w' => e = .returned (.int .i64 ((rotl x 12 : Nat) : Int)) ∧ wz = w') := fun wz => turnI_any x 12 wz HX.out (by omega) (by omega)
  have hf' := hf.upd b hv
  clear hv
  generalize rotl x 12 = v at HC hf' HF3
  have HR' : RowC ((w3.setCell ⟨g, b, none⟩ (.int .i64 (v : Int))).drew) g .i64 n (upd f3 b v) := (HR.out.set hb v).drew
  have HG' : Hid (Gs w ((w3.setCell ⟨g, b, none⟩ (.int .i64 (v : Int))).drew) g) := HG.out.step _ _
  clear HX hf HR HG
  go_wp2
  refine _root_.Go.wp_region_held (S := fun w' : World => w'.cell? ⟨g, c, none⟩ = some (.int .i64 ((f3 c : Nat) : Int)) ∧ w'.frozen? ⟨g, b, none⟩ = false) (by kernel_rfl) ?_
  have hS : (fun w' : World => w'.cell? ⟨g, c, none⟩ = some (.int .i64 ((f3 c : Nat) : Int)) ∧ w'.frozen? ⟨g, b, none⟩ = false) w3.drew := ⟨c2, z1⟩
  refine wpAnyH_take (i := 0) (v := ?_) rfl (by kernel_rfl) (by kernel_rfl) (by kernel_rfl) (fun _ _ _ h => h) (Or.inl ⟨by rfl, ?_⟩) hS ?_
  rotate_left
  · intro w hSw; obtain ⟨y1, y2⟩ := hSw; go_simp; try with_reducible rfl
  simp only [Act.put, List.getElem_toArray, List.getElem_cons_zero, List.setIfInBounds_toArray, List.set_cons_succ, List.set_cons_zero]
  refine wpAnyH_take (i := 1) (v := ?_) rfl (by kernel_rfl) (by kernel_rfl) (by kernel_rfl) (fun _ _ _ h => h) (Or.inl ⟨by rfl, ?_⟩) hS ?_
  rotate_left
  · intro w hSw; obtain ⟨y1, y2⟩ := hSw; go_simp; try with_reducible rfl
  simp only [Act.put, List.getElem_toArray, List.getElem_cons_succ, List.getElem_cons_zero, List.setIfInBounds_toArray, List.set_cons_succ, List.set_cons_zero]
  refine wpAnyH_take (i := 2) (v := ?_) rfl (by kernel_rfl) (by kernel_rfl) (by kernel_rfl) (fun _ _ _ h => h) (Or.inl ⟨by rfl, ?_⟩) hS ?_
  rotate_left
  · intro w hSw; obtain ⟨y1, y2⟩ := hSw; go_simp; try with_reducible rfl
  simp only [Act.put, List.getElem_toArray, List.getElem_cons_succ, List.getElem_cons_zero, List.setIfInBounds_toArray, List.set_cons_succ, List.set_cons_zero]
  refine wpAnyH_take (i := 3) (v := ?_) rfl (by kernel_rfl) (by kernel_rfl) (by kernel_rfl) (fun _ _ _ h => h) (Or.inl ⟨by rfl, ?_⟩) hS ?_
  rotate_left
  · intro w hSw; obtain ⟨y1, y2⟩ := hSw; go_simp; try with_reducible rfl
  simp only [Act.put, List.getElem_toArray, List.getElem_cons_succ, List.getElem_cons_zero, List.setIfInBounds_toArray, List.set_cons_succ, List.set_cons_zero]
  refine wpAnyH_take (i := 4) (v := ?_) rfl (by kernel_rfl) (by kernel_rfl) (by kernel_rfl) (fun _ _ _ h => h) (Or.inl ⟨by rfl, ?_⟩) hS ?_
  rotate_left
  · intro w hSw; obtain ⟨y1, y2⟩ := hSw; go_simp; try with_reducible rfl
  simp only [Act.put, List.getElem_toArray, List.getElem_cons_succ, List.getElem_cons_zero, List.setIfInBounds_toArray, List.set_cons_succ, List.set_cons_zero]
  refine wpAnyH_take (i := 6) (v := ?_) rfl (by kernel_rfl) (by kernel_rfl) (by kernel_rfl) (fun _ _ _ h => h) (Or.inl ⟨by rfl, ?_⟩) hS ?_
  rotate_left
  · intro w hSw; obtain ⟨y1, y2⟩ := hSw; go_simp; try with_reducible rfl
  simp only [Act.put, List.getElem_toArray, List.getElem_cons_succ, List.getElem_cons_zero, List.setIfInBounds_toArray, List.set_cons_succ, List.set_cons_zero]
  refine wpAnyH_take (i := 7) (v := ?_) rfl (by kernel_rfl) (by kernel_rfl) (by kernel_rfl) (fun _ _ _ h => h) (Or.inl ⟨by rfl, ?_⟩) hS ?_
  rotate_left
  · intro w hSw; obtain ⟨y1, y2⟩ := hSw; go_simp; try with_reducible rfl
  simp only [Act.put, List.getElem_toArray, List.getElem_cons_succ, List.getElem_cons_zero, List.setIfInBounds_toArray, List.set_cons_succ, List.set_cons_zero]
  refine wpAnyH_take (i := 8) (v := ?_) rfl (by kernel_rfl) (by kernel_rfl) (by kernel_rfl) (fun _ _ _ h => h) (Or.inl ⟨by rfl, ?_⟩) hS ?_
  rotate_left
  · intro w hSw; obtain ⟨y1, y2⟩ := hSw; go_simp; try with_reducible rfl
  simp only [Act.put, List.getElem_toArray, List.getElem_cons_succ, List.getElem_cons_zero, List.setIfInBounds_toArray, List.set_cons_succ, List.set_cons_zero]
  refine wpAnyH_take (i := 9) (v := ?_) rfl (by kernel_rfl) (by kernel_rfl) (by kernel_rfl) (fun _ _ _ h => h) (Or.inl ⟨by rfl, ?_⟩) hS ?_
  rotate_left
  · intro w hSw; obtain ⟨y1, y2⟩ := hSw; go_simp; try with_reducible rfl
  simp only [Act.put, List.getElem_toArray, List.getElem_cons_succ, List.getElem_cons_zero, List.setIfInBounds_toArray, List.set_cons_succ, List.set_cons_zero]
  refine wpAnyH_ready (rs := [5]) (by kernel_rfl) (by simp) ?_
  refine AllReadyH.cons rfl (fun K hK => ?_) AllReadyH.nil
  go_simp
  refine hK.out _ _ ⟨c2, z1⟩ (fun hS => ?_)
  clear hK K
  refine wpAnyH_take (i := 10) (v := ?_) rfl (by kernel_rfl) (by kernel_rfl) (by kernel_rfl) (fun _ _ _ h => h) (Or.inl ⟨by rfl, ?_⟩) hS ?_
  rotate_left
  · intro w hSw; obtain ⟨y1, y2⟩ := hSw; go_simp; try with_reducible rfl
  simp only [Act.put, List.getElem_toArray, List.getElem_cons_succ, List.getElem_cons_zero, List.setIfInBounds_toArray, List.set_cons_succ, List.set_cons_zero]
  refine wpAnyH_ready (rs := [11]) (by kernel_rfl) (by simp) ?_
  refine AllReadyH.cons rfl (fun K hK => ?_) AllReadyH.nil
  go_simp
  refine Calls.mono (HC.out _) ?_
  rintro e wq ⟨rfl, rfl⟩
  refine hK.out _ _ ⟨c2, z1⟩ (fun hS => ?_)
  clear hK K
  refine wpAnyH_take (i := 12) (v := ?_) rfl (by kernel_rfl) (by kernel_rfl) (by kernel_rfl) (fun _ _ _ h => h) (Or.inl ⟨by rfl, ?_⟩) hS ?_
  rotate_left
  · intro w hSw; obtain ⟨y1, y2⟩ := hSw; go_simp; try with_reducible rfl
  simp only [Act.put, List.getElem_toArray, List.getElem_cons_succ, List.getElem_cons_zero, List.setIfInBounds_toArray, List.set_cons_succ, List.set_cons_zero]
  refine wpAnyH_ready (rs := [13]) (by kernel_rfl) (by simp) ?_
  refine AllReadyH.cons rfl (fun K hK => ?_) AllReadyH.nil
  go_simp
  have hS2 : (fun w' : World => w'.cell? ⟨g, c, none⟩ = some (.int .i64 ((f3 c : Nat) : Int)) ∧ w'.frozen? ⟨g, b, none⟩ = false) ((w3.setCell ⟨g, b, none⟩ (.int .i64 (v : Int))).drew) := st_keep _ hne.out c2 z1
  refine hK.out _ _ hS2 (fun hS => ?_)
  clear hK K
  clear hS
  refine wpAnyH_done (by kernel_rfl) ?_ _
  clear c1 c2 z1 hx HC hne hS2
  generalize ((w3.setCell ⟨g, b, none⟩ (.int .i64 (v : Int))).drew) = w4 at HR' HG' ⊢
  generalize upd f3 b v = f4 at HR' hf' HF3
  have HR : Hid (RowC w4 g .i64 n f4) := HR'
  have HG := HG'
  have hf := hf'
  have HF2 : Hid _ := HF3
  clear HR' HG' hf' HF3
  go_wp2
  have c1 := HR.out.c a ha
  have c2 := HR.out.c b hb
  have z1 := HR.out.z a ha
  have b1 := hf a
  have b2 := hf b
  have hne : Hid (a ≠ b) := fun e => HNE.out.1.symm e.symm
  have hw : IntKind.i64.wrap (((f4 a : Nat) : Int) + ((f4 b : Nat) : Int)) = ((f4 a + f4 b : Nat) : Int) := by rw [IntKind.wrap_i64]; omega
  obtain ⟨v, HV⟩ : ∃ v, Hid (v = (f4 a + f4 b) % 4294967296) := ⟨_, rfl⟩
  have hv : v < 4294967296 := by rw [HV.out]; exact Nat.mod_lt _ (by omega)
  have HC : Hid (∀ wz, Calls Try.prog 14 #[.int .i64 ((f4 a + f4 b : Nat) : Int)] wz fun e w' => e = .returned (.int .i64 (v : Int)) ∧ wz = w') := fun wz => cutN_any _ _ wz HV.out.symm
  have HR' : RowC ((w4.setCell ⟨g, a, none⟩ (.int .i64 (v : Int))).drew) g .i64 n (upd f4 a v) := (HR.out.set ha v).drew
  have HG' : Hid (Gs w ((w4.setCell ⟨g, a, none⟩ (.int .i64 (v : Int))).drew) g) := HG.out.step _ _
  have hf' := hf.upd a hv
  have HQ : Hid (addTurn f4 a b d 8 = upd (upd f4 a v) d (rotl (upd f4 a v d ^^^ upd f4 a v a) 8)) := by show _ = _; rw [HV.out]; rfl
  have HF3 := HF2.out
  rw [HQ.out] at HF3
  clear HF2 HQ HV b1 b2 hf HR HG
  generalize f4 a + f4 b = sm at hw HC
  refine _root_.Go.wp_region_held (S := fun w' : World => w'.cell? ⟨g, b, none⟩ = some (.int .i64 ((f4 b : Nat) : Int)) ∧ w'.frozen? ⟨g, a, none⟩ = false) (by kernel_rfl) ?_
  have hS : (fun w' : World => w'.cell? ⟨g, b, none⟩ = some (.int .i64 ((f4 b : Nat) : Int)) ∧ w'.frozen? ⟨g, a, none⟩ = false) w4.drew := ⟨c2, z1⟩
  refine wpAnyH_take (i := 0) (v := ?_) rfl (by kernel_rfl) (by kernel_rfl) (by kernel_rfl) (fun _ _ _ h => h) (Or.inl ⟨by rfl, ?_⟩) hS ?_
  rotate_left
  · intro w hSw; obtain ⟨y1, y2⟩ := hSw; go_simp; try with_reducible rfl
  simp only [Act.put, List.getElem_toArray, List.getElem_cons_zero, List.setIfInBounds_toArray, List.set_cons_succ, List.set_cons_zero]
  refine wpAnyH_take (i := 1) (v := ?_) rfl (by kernel_rfl) (by kernel_rfl) (by kernel_rfl) (fun _ _ _ h => h) (Or.inl ⟨by rfl, ?_⟩) hS ?_
  rotate_left
  · intro w hSw; obtain ⟨y1, y2⟩ := hSw; go_simp; try with_reducible rfl
  simp only [Act.put, List.getElem_toArray, List.getElem_cons_succ, List.getElem_cons_zero, List.setIfInBounds_toArray, List.set_cons_succ, List.set_cons_zero]
  refine wpAnyH_take (i := 2) (v := ?_) rfl (by kernel_rfl) (by kernel_rfl) (by kernel_rfl) (fun _ _ _ h => h) (Or.inl ⟨by rfl, ?_⟩) hS ?_
  rotate_left
  · intro w hSw; obtain ⟨y1, y2⟩ := hSw; go_simp; try with_reducible rfl
  simp only [Act.put, List.getElem_toArray, List.getElem_cons_succ, List.getElem_cons_zero, List.setIfInBounds_toArray, List.set_cons_succ, List.set_cons_zero]
  refine wpAnyH_take (i := 3) (v := ?_) rfl (by kernel_rfl) (by kernel_rfl) (by kernel_rfl) (fun _ _ _ h => h) (Or.inl ⟨by rfl, ?_⟩) hS ?_
  rotate_left
  · intro w hSw; obtain ⟨y1, y2⟩ := hSw; go_simp; try with_reducible rfl
  simp only [Act.put, List.getElem_toArray, List.getElem_cons_succ, List.getElem_cons_zero, List.setIfInBounds_toArray, List.set_cons_succ, List.set_cons_zero]
  refine wpAnyH_take (i := 4) (v := ?_) rfl (by kernel_rfl) (by kernel_rfl) (by kernel_rfl) (fun _ _ _ h => h) (Or.inl ⟨by rfl, ?_⟩) hS ?_
  rotate_left
  · intro w hSw; obtain ⟨y1, y2⟩ := hSw; go_simp; try with_reducible rfl
  simp only [Act.put, List.getElem_toArray, List.getElem_cons_succ, List.getElem_cons_zero, List.setIfInBounds_toArray, List.set_cons_succ, List.set_cons_zero]
  refine wpAnyH_take (i := 6) (v := ?_) rfl (by kernel_rfl) (by kernel_rfl) (by kernel_rfl) (fun _ _ _ h => h) (Or.inl ⟨by rfl, ?_⟩) hS ?_
  rotate_left
  · intro w hSw; obtain ⟨y1, y2⟩ := hSw; go_simp; try with_reducible rfl
  simp only [Act.put, List.getElem_toArray, List.getElem_cons_succ, List.getElem_cons_zero, List.setIfInBounds_toArray, List.set_cons_succ, List.set_cons_zero]
  refine wpAnyH_take (i := 7) (v := ?_) rfl (by kernel_rfl) (by kernel_rfl) (by kernel_rfl) (fun _ _ _ h => h) (Or.inl ⟨by rfl, ?_⟩) hS ?_
  rotate_left
  · intro w hSw; obtain ⟨y1, y2⟩ := hSw; go_simp; try with_reducible rfl
  simp only [Act.put, List.getElem_toArray, List.getElem_cons_succ, List.getElem_cons_zero, List.setIfInBounds_toArray, List.set_cons_succ, List.set_cons_zero]
  refine wpAnyH_take (i := 8) (v := ?_) rfl (by kernel_rfl) (by kernel_rfl) (by kernel_rfl) (fun _ _ _ h => h) (Or.inl ⟨by rfl, ?_⟩) hS ?_
  rotate_left
  · intro w hSw; obtain ⟨y1, y2⟩ := hSw; go_simp; try with_reducible rfl
  simp only [Act.put, List.getElem_toArray, List.getElem_cons_succ, List.getElem_cons_zero, List.setIfInBounds_toArray, List.set_cons_succ, List.set_cons_zero]
  refine wpAnyH_take (i := 9) (v := ?_) rfl (by kernel_rfl) (by kernel_rfl) (by kernel_rfl) (fun _ _ _ h => h) (Or.inl ⟨by rfl, ?_⟩) hS ?_
  rotate_left
  · intro w hSw; obtain ⟨y1, y2⟩ := hSw; go_simp; try with_reducible rfl
  simp only [Act.put, List.getElem_toArray, List.getElem_cons_succ, List.getElem_cons_zero, List.setIfInBounds_toArray, List.set_cons_succ, List.set_cons_zero]
  refine wpAnyH_ready (rs := [5]) (by kernel_rfl) (by simp) ?_
  refine AllReadyH.cons rfl (fun K hK => ?_) AllReadyH.nil
  go_simp
  refine hK.out _ _ ⟨c2, z1⟩ (fun hS => ?_)
  clear hK K
  refine wpAnyH_take (i := 10) (v := ?_) rfl (by kernel_rfl) (by kernel_rfl) (by kernel_rfl) (fun _ _ _ h => h) (Or.inl ⟨by rfl, ?_⟩) hS ?_
  rotate_left
  · intro w hSw; obtain ⟨y1, y2⟩ := hSw; go_simp; try with_reducible rfl
  simp only [Act.put, List.getElem_toArray, List.getElem_cons_succ, List.getElem_cons_zero, List.setIfInBounds_toArray, List.set_cons_succ, List.set_cons_zero]
  refine wpAnyH_ready (rs := [11]) (by kernel_rfl) (by simp) ?_
  refine AllReadyH.cons rfl (fun K hK => ?_) AllReadyH.nil
  go_simp
  refine Calls.mono (HC.out _) ?_
  rintro e wq ⟨rfl, rfl⟩
  refine hK.out _ _ ⟨c2, z1⟩ (fun hS => ?_)
  clear hK K
  refine wpAnyH_take (i := 12) (v := ?_) rfl (by kernel_rfl) (by kernel_rfl) (by kernel_rfl) (fun _ _ _ h => h) (Or.inl ⟨by rfl, ?_⟩) hS ?_
  rotate_left
  · intro w hSw; obtain ⟨y1, y2⟩ := hSw; go_simp; try with_reducible rfl
  simp only [Act.put, List.getElem_toArray, List.getElem_cons_succ, List.getElem_cons_zero, List.setIfInBounds_toArray, List.set_cons_succ, List.set_cons_zero]
  refine wpAnyH_ready (rs := [13]) (by kernel_rfl) (by simp) ?_
  refine AllReadyH.cons rfl (fun K hK => ?_) AllReadyH.nil
  go_simp
  have hS2 : (fun w' : World => w'.cell? ⟨g, b, none⟩ = some (.int .i64 ((f4 b : Nat) : Int)) ∧ w'.frozen? ⟨g, a, none⟩ = false) ((w4.setCell ⟨g, a, none⟩ (.int .i64 (v : Int))).drew) := st_keep _ hne.out c2 z1
  refine hK.out _ _ hS2 (fun hS => ?_)
  clear hK K
  clear hS
  refine wpAnyH_done (by kernel_rfl) ?_ _
  clear c1 c2 z1 hw HC hne hS2
  generalize ((w4.setCell ⟨g, a, none⟩ (.int .i64 (v : Int))).drew) = w5 at HR' HG' ⊢
  generalize upd f4 a v = f5 at HR' hf' HF3
  clear hv
  have HR : Hid (RowC w5 g .i64 n f5) := HR'
  have HG := HG'
  have hf := hf'
  clear HR' HG' hf'
  have c1 := HR.out.c d hd
  have c2 := HR.out.c a ha
  have z1 := HR.out.z d hd
  have hne : Hid (d ≠ a) := fun e => HNE.out.2.1.symm e.symm
  have hx := i64xorN (f5 d) (f5 a) (hf d) (hf a)
  have HX : Hid (f5 d ^^^ f5 a < 4294967296) := xorL (hf d) (hf a)
  generalize f5 d ^^^ f5 a = x at hx HX HF3
  have hv : rotl x 8 < 4294967296 := rotl_lt HX.out _
  have HC : Hid (∀ wz, Calls Try.prog 44 #[.int .i64 (x : Int), .int .u64 8] wz fun e w' => e = .returned (.int .i64 ((rotl x 8 : Nat) : Int)) ∧ wz = w') := fun wz => turnI_any x 8 wz HX.out (by omega) (by omega)
  have hf' := hf.upd d hv
  clear hv
  generalize rotl x 8 = v at HC hf' HF3
  have HR' : RowC ((w5.setCell ⟨g, d, none⟩ (.int .i64 (v : Int))).drew) g .i64 n (upd f5 d v) := (HR.out.set hd v).drew
  have HG' : Hid (Gs w ((w5.setCell ⟨g, d, none⟩ (.int .i64 (v : Int))).drew) g) := HG.out.step _ _
  clear HX hf HR HG
  go_wp2
  refine _root_.Go.wp_region_held (S := fun w' : World => w'.cell? ⟨g, a, none⟩ = some (.int .i64 ((f5 a : Nat) : Int)) ∧ w'.frozen? ⟨g, d, none⟩ = false) (by kernel_rfl) ?_
  have hS : (fun w' : World => w'.cell? ⟨g, a, none⟩ = some (.int .i64 ((f5 a : Nat) : Int)) ∧ w'.frozen? ⟨g, d, none⟩ = false) w5.drew := ⟨c2, z1⟩
  refine wpAnyH_take (i := 0) (v := ?_) rfl (by kernel_rfl) (by kernel_rfl) (by kernel_rfl) (fun _ _ _ h => h) (Or.inl ⟨by rfl, ?_⟩) hS ?_
  rotate_left
  · intro w hSw; obtain ⟨y1, y2⟩ := hSw; go_simp; try with_reducible rfl
  simp only [Act.put, List.getElem_toArray, List.getElem_cons_zero, List.setIfInBounds_toArray, List.set_cons_succ, List.set_cons_zero]
  refine wpAnyH_take (i := 1) (v := ?_) rfl (by kernel_rfl) (by kernel_rfl) (by kernel_rfl) (fun _ _ _ h => h) (Or.inl ⟨by rfl, ?_⟩) hS ?_
  rotate_left
  · intro w hSw; obtain ⟨y1, y2⟩ := hSw; go_simp; try with_reducible rfl
  simp only [Act.put, List.getElem_toArray, List.getElem_cons_succ, List.getElem_cons_zero, List.setIfInBounds_toArray, List.set_cons_succ, List.set_cons_zero]
  refine wpAnyH_take (i := 2) (v := ?_) rfl (by kernel_rfl) (by kernel_rfl) (by kernel_rfl) (fun _ _ _ h => h) (Or.inl ⟨by rfl, ?_⟩) hS ?_
  rotate_left
  · intro w hSw; obtain ⟨y1, y2⟩ := hSw; go_simp; try with_reducible rfl
  simp only [Act.put, List.getElem_toArray, List.getElem_cons_succ, List.getElem_cons_zero, List.setIfInBounds_toArray, List.set_cons_succ, List.set_cons_zero]
  refine wpAnyH_take (i := 3) (v := ?_) rfl (by kernel_rfl) (by kernel_rfl) (by kernel_rfl) (fun _ _ _ h => h) (Or.inl ⟨by rfl, ?_⟩) hS ?_
  rotate_left
  · intro w hSw; obtain ⟨y1, y2⟩ := hSw; go_simp; try with_reducible rfl
  simp only [Act.put, List.getElem_toArray, List.getElem_cons_succ, List.getElem_cons_zero, List.setIfInBounds_toArray, List.set_cons_succ, List.set_cons_zero]
  refine wpAnyH_take (i := 4) (v := ?_) rfl (by kernel_rfl) (by kernel_rfl) (by kernel_rfl) (fun _ _ _ h => h) (Or.inl ⟨by rfl, ?_⟩) hS ?_
  rotate_left
  · intro w hSw; obtain ⟨y1, y2⟩ := hSw; go_simp; try with_reducible rfl
  simp only [Act.put, List.getElem_toArray, List.getElem_cons_succ, List.getElem_cons_zero, List.setIfInBounds_toArray, List.set_cons_succ, List.set_cons_zero]
  refine wpAnyH_take (i := 6) (v := ?_) rfl (by kernel_rfl) (by kernel_rfl) (by kernel_rfl) (fun _ _ _ h => h) (Or.inl ⟨by rfl, ?_⟩) hS ?_
  rotate_left
  · intro w hSw; obtain ⟨y1, y2⟩ := hSw; go_simp; try with_reducible rfl
  simp only [Act.put, List.getElem_toArray, List.getElem_cons_succ, List.getElem_cons_zero, List.setIfInBounds_toArray, List.set_cons_succ, List.set_cons_zero]
  refine wpAnyH_take (i := 7) (v := ?_) rfl (by kernel_rfl) (by kernel_rfl) (by kernel_rfl) (fun _ _ _ h => h) (Or.inl ⟨by rfl, ?_⟩) hS ?_
  rotate_left
  · intro w hSw; obtain ⟨y1, y2⟩ := hSw; go_simp; try with_reducible rfl
  simp only [Act.put, List.getElem_toArray, List.getElem_cons_succ, List.getElem_cons_zero, List.setIfInBounds_toArray, List.set_cons_succ, List.set_cons_zero]
  refine wpAnyH_take (i := 8) (v := ?_) rfl (by kernel_rfl) (by kernel_rfl) (by kernel_rfl) (fun _ _ _ h => h) (Or.inl ⟨by rfl, ?_⟩) hS ?_
  rotate_left
  · intro w hSw; obtain ⟨y1, y2⟩ := hSw; go_simp; try with_reducible rfl
  simp only [Act.put, List.getElem_toArray, List.getElem_cons_succ, List.getElem_cons_zero, List.setIfInBounds_toArray, List.set_cons_succ, List.set_cons_zero]
  refine wpAnyH_take (i := 9) (v := ?_) rfl (by kernel_rfl) (by kernel_rfl) (by kernel_rfl) (fun _ _ _ h => h) (Or.inl ⟨by rfl, ?_⟩) hS ?_
  rotate_left
  · intro w hSw; obtain ⟨y1, y2⟩ := hSw; go_simp; try with_reducible rfl
  simp only [Act.put, List.getElem_toArray, List.getElem_cons_succ, List.getElem_cons_zero, List.setIfInBounds_toArray, List.set_cons_succ, List.set_cons_zero]
  refine wpAnyH_ready (rs := [5]) (by kernel_rfl) (by simp) ?_
  refine AllReadyH.cons rfl (fun K hK => ?_) AllReadyH.nil
  go_simp
  refine hK.out _ _ ⟨c2, z1⟩ (fun hS => ?_)
  clear hK K
  refine wpAnyH_take (i := 10) (v := ?_) rfl (by kernel_rfl) (by kernel_rfl) (by kernel_rfl) (fun _ _ _ h => h) (Or.inl ⟨by rfl, ?_⟩) hS ?_
  rotate_left
  · intro w hSw; obtain ⟨y1, y2⟩ := hSw; go_simp; try with_reducible rfl
  simp only [Act.put, List.getElem_toArray, List.getElem_cons_succ, List.getElem_cons_zero, List.setIfInBounds_toArray, List.set_cons_succ, List.set_cons_zero]
  refine wpAnyH_ready (rs := [11]) (by kernel_rfl) (by simp) ?_
  refine AllReadyH.cons rfl (fun K hK => ?_) AllReadyH.nil
  go_simp
  refine Calls.mono (HC.out _) ?_
  rintro e wq ⟨rfl, rfl⟩
  refine hK.out _ _ ⟨c2, z1⟩ (fun hS => ?_)
  clear hK K
  refine wpAnyH_take (i := 12) (v := ?_) rfl (by kernel_rfl) (by kernel_rfl) (by kernel_rfl) (fun _ _ _ h => h) (Or.inl ⟨by rfl, ?_⟩) hS ?_
  rotate_left
  · intro w hSw; obtain ⟨y1, y2⟩ := hSw; go_simp; try with_reducible rfl
  simp only [Act.put, List.getElem_toArray, List.getElem_cons_succ, List.getElem_cons_zero, List.setIfInBounds_toArray, List.set_cons_succ, List.set_cons_zero]
  refine wpAnyH_ready (rs := [13]) (by kernel_rfl) (by simp) ?_
  refine AllReadyH.cons rfl (fun K hK => ?_) AllReadyH.nil
  go_simp
  have hS2 : (fun w' : World => w'.cell? ⟨g, a, none⟩ = some (.int .i64 ((f5 a : Nat) : Int)) ∧ w'.frozen? ⟨g, d, none⟩ = false) ((w5.setCell ⟨g, d, none⟩ (.int .i64 (v : Int))).drew) := st_keep _ hne.out c2 z1
  refine hK.out _ _ hS2 (fun hS => ?_)
  clear hK K
  clear hS
  refine wpAnyH_done (by kernel_rfl) ?_ _
  clear c1 c2 z1 hx HC hne hS2
  generalize ((w5.setCell ⟨g, d, none⟩ (.int .i64 (v : Int))).drew) = w6 at HR' HG' ⊢
  generalize upd f5 d v = f6 at HR' hf' HF3
  have HR : Hid (RowC w6 g .i64 n f6) := HR'
  have HG := HG'
  have hf := hf'
  have HF2 : Hid _ := HF3
  clear HR' HG' hf' HF3
  go_wp2
  have c1 := HR.out.c c hc
  have c2 := HR.out.c d hd
  have z1 := HR.out.z c hc
  have b1 := hf c
  have b2 := hf d
  have hne : Hid (c ≠ d) := fun e => HNE.out.2.2.1.symm e.symm
  have hw : IntKind.i64.wrap (((f6 c : Nat) : Int) + ((f6 d : Nat) : Int)) = ((f6 c + f6 d : Nat) : Int) := by rw [IntKind.wrap_i64]; omega
  obtain ⟨v, HV⟩ : ∃ v, Hid (v = (f6 c + f6 d) % 4294967296) := ⟨_, rfl⟩
  have hv : v < 4294967296 := by rw [HV.out]; exact Nat.mod_lt _ (by omega)
  have HC : Hid (∀ wz, Calls Try.prog 14 #[.int .i64 ((f6 c + f6 d : Nat) : Int)] wz fun e w' => e = .returned (.int .i64 (v : Int)) ∧ wz = w') := fun wz => cutN_any _ _ wz HV.out.symm
  have HR' : RowC ((w6.setCell ⟨g, c, none⟩ (.int .i64 (v : Int))).drew) g .i64 n (upd f6 c v) := (HR.out.set hc v).drew
  have HG' : Hid (Gs w ((w6.setCell ⟨g, c, none⟩ (.int .i64 (v : Int))).drew) g) := HG.out.step _ _
  have hf' := hf.upd c hv
  have HQ : Hid (addTurn f6 c d b 7 = upd (upd f6 c v) b (rotl (upd f6 c v b ^^^ upd f6 c v c) 7)) := by show _ = _; rw [HV.out]; rfl
  have HF3 := HF2.out
  rw [HQ.out] at HF3
  clear HF2 HQ HV b1 b2 hf HR HG
  generalize f6 c + f6 d = sm at hw HC
  refine _root_.Go.wp_region_held (S := fun w' : World => w'.cell? ⟨g, d, none⟩ = some (.int .i64 ((f6 d : Nat) : Int)) ∧ w'.frozen? ⟨g, c, none⟩ = false) (by kernel_rfl) ?_
  have hS : (fun w' : World => w'.cell? ⟨g, d, none⟩ = some (.int .i64 ((f6 d : Nat) : Int)) ∧ w'.frozen? ⟨g, c, none⟩ = false) w6.drew := ⟨c2, z1⟩
  refine wpAnyH_take (i := 0) (v := ?_) rfl (by kernel_rfl) (by kernel_rfl) (by kernel_rfl) (fun _ _ _ h => h) (Or.inl ⟨by rfl, ?_⟩) hS ?_
  rotate_left
  · intro w hSw; obtain ⟨y1, y2⟩ := hSw; go_simp; try with_reducible rfl
  simp only [Act.put, List.getElem_toArray, List.getElem_cons_zero, List.setIfInBounds_toArray, List.set_cons_succ, List.set_cons_zero]
  refine wpAnyH_take (i := 1) (v := ?_) rfl (by kernel_rfl) (by kernel_rfl) (by kernel_rfl) (fun _ _ _ h => h) (Or.inl ⟨by rfl, ?_⟩) hS ?_
  rotate_left
  · intro w hSw; obtain ⟨y1, y2⟩ := hSw; go_simp; try with_reducible rfl
  simp only [Act.put, List.getElem_toArray, List.getElem_cons_succ, List.getElem_cons_zero, List.setIfInBounds_toArray, List.set_cons_succ, List.set_cons_zero]
  refine wpAnyH_take (i := 2) (v := ?_) rfl (by kernel_rfl) (by kernel_rfl) (by kernel_rfl) (fun _ _ _ h => h) (Or.inl ⟨by rfl, ?_⟩) hS ?_
  rotate_left
  · intro w hSw; obtain ⟨y1, y2⟩ := hSw; go_simp; try with_reducible rfl
  simp only [Act.put, List.getElem_toArray, List.getElem_cons_succ, List.getElem_cons_zero, List.setIfInBounds_toArray, List.set_cons_succ, List.set_cons_zero]
  refine wpAnyH_take (i := 3) (v := ?_) rfl (by kernel_rfl) (by kernel_rfl) (by kernel_rfl) (fun _ _ _ h => h) (Or.inl ⟨by rfl, ?_⟩) hS ?_
  rotate_left
  · intro w hSw; obtain ⟨y1, y2⟩ := hSw; go_simp; try with_reducible rfl
  simp only [Act.put, List.getElem_toArray, List.getElem_cons_succ, List.getElem_cons_zero, List.setIfInBounds_toArray, List.set_cons_succ, List.set_cons_zero]
  refine wpAnyH_take (i := 4) (v := ?_) rfl (by kernel_rfl) (by kernel_rfl) (by kernel_rfl) (fun _ _ _ h => h) (Or.inl ⟨by rfl, ?_⟩) hS ?_
  rotate_left
  · intro w hSw; obtain ⟨y1, y2⟩ := hSw; go_simp; try with_reducible rfl
  simp only [Act.put, List.getElem_toArray, List.getElem_cons_succ, List.getElem_cons_zero, List.setIfInBounds_toArray, List.set_cons_succ, List.set_cons_zero]
  refine wpAnyH_take (i := 6) (v := ?_) rfl (by kernel_rfl) (by kernel_rfl) (by kernel_rfl) (fun _ _ _ h => h) (Or.inl ⟨by rfl, ?_⟩) hS ?_
  rotate_left
  · intro w hSw; obtain ⟨y1, y2⟩ := hSw; go_simp; try with_reducible rfl
  simp only [Act.put, List.getElem_toArray, List.getElem_cons_succ, List.getElem_cons_zero, List.setIfInBounds_toArray, List.set_cons_succ, List.set_cons_zero]
  refine wpAnyH_take (i := 7) (v := ?_) rfl (by kernel_rfl) (by kernel_rfl) (by kernel_rfl) (fun _ _ _ h => h) (Or.inl ⟨by rfl, ?_⟩) hS ?_
  rotate_left
  · intro w hSw; obtain ⟨y1, y2⟩ := hSw; go_simp; try with_reducible rfl
  simp only [Act.put, List.getElem_toArray, List.getElem_cons_succ, List.getElem_cons_zero, List.setIfInBounds_toArray, List.set_cons_succ, List.set_cons_zero]
  refine wpAnyH_take (i := 8) (v := ?_) rfl (by kernel_rfl) (by kernel_rfl) (by kernel_rfl) (fun _ _ _ h => h) (Or.inl ⟨by rfl, ?_⟩) hS ?_
  rotate_left
  · intro w hSw; obtain ⟨y1, y2⟩ := hSw; go_simp; try with_reducible rfl
  simp only [Act.put, List.getElem_toArray, List.getElem_cons_succ, List.getElem_cons_zero, List.setIfInBounds_toArray, List.set_cons_succ, List.set_cons_zero]
  refine wpAnyH_take (i := 9) (v := ?_) rfl (by kernel_rfl) (by kernel_rfl) (by kernel_rfl) (fun _ _ _ h => h) (Or.inl ⟨by rfl, ?_⟩) hS ?_
  rotate_left
  · intro w hSw; obtain ⟨y1, y2⟩ := hSw; go_simp; try with_reducible rfl
  simp only [Act.put, List.getElem_toArray, List.getElem_cons_succ, List.getElem_cons_zero, List.setIfInBounds_toArray, List.set_cons_succ, List.set_cons_zero]
  refine wpAnyH_ready (rs := [5]) (by kernel_rfl) (by simp) ?_
  refine AllReadyH.cons rfl (fun K hK => ?_) AllReadyH.nil
  go_simp
  refine hK.out _ _ ⟨c2, z1⟩ (fun hS => ?_)
  clear hK K
  refine wpAnyH_take (i := 10) (v := ?_) rfl (by kernel_rfl) (by kernel_rfl) (by kernel_rfl) (fun _ _ _ h => h) (Or.inl ⟨by rfl, ?_⟩) hS ?_
  rotate_left
  · intro w hSw; obtain ⟨y1, y2⟩ := hSw; go_simp; try with_reducible rfl
  simp only [Act.put, List.getElem_toArray, List.getElem_cons_succ, List.getElem_cons_zero, List.setIfInBounds_toArray, List.set_cons_succ, List.set_cons_zero]
  refine wpAnyH_ready (rs := [11]) (by kernel_rfl) (by simp) ?_
  refine AllReadyH.cons rfl (fun K hK => ?_) AllReadyH.nil
  go_simp
  refine Calls.mono (HC.out _) ?_
  rintro e wq ⟨rfl, rfl⟩
  refine hK.out _ _ ⟨c2, z1⟩ (fun hS => ?_)
  clear hK K
  refine wpAnyH_take (i := 12) (v := ?_) rfl (by kernel_rfl) (by kernel_rfl) (by kernel_rfl) (fun _ _ _ h => h) (Or.inl ⟨by rfl, ?_⟩) hS ?_
  rotate_left
  · intro w hSw; obtain ⟨y1, y2⟩ := hSw; go_simp; try with_reducible rfl
  simp only [Act.put, List.getElem_toArray, List.getElem_cons_succ, List.getElem_cons_zero, List.setIfInBounds_toArray, List.set_cons_succ, List.set_cons_zero]
  refine wpAnyH_ready (rs := [13]) (by kernel_rfl) (by simp) ?_
  refine AllReadyH.cons rfl (fun K hK => ?_) AllReadyH.nil
  go_simp
  have hS2 : (fun w' : World => w'.cell? ⟨g, d, none⟩ = some (.int .i64 ((f6 d : Nat) : Int)) ∧ w'.frozen? ⟨g, c, none⟩ = false) ((w6.setCell ⟨g, c, none⟩ (.int .i64 (v : Int))).drew) := st_keep _ hne.out c2 z1
  refine hK.out _ _ hS2 (fun hS => ?_)
  clear hK K
  clear hS
  refine wpAnyH_done (by kernel_rfl) ?_ _
  clear c1 c2 z1 hw HC hne hS2
  generalize ((w6.setCell ⟨g, c, none⟩ (.int .i64 (v : Int))).drew) = w7 at HR' HG' ⊢
  generalize upd f6 c v = f7 at HR' hf' HF3
  clear hv
  have HR : Hid (RowC w7 g .i64 n f7) := HR'
  have HG := HG'
  have hf := hf'
  clear HR' HG' hf'
  have c1 := HR.out.c b hb
  have c2 := HR.out.c c hc
  have z1 := HR.out.z b hb
  have hne : Hid (b ≠ c) := fun e => HNE.out.2.2.2.symm e.symm
  have hx := i64xorN (f7 b) (f7 c) (hf b) (hf c)
  have HX : Hid (f7 b ^^^ f7 c < 4294967296) := xorL (hf b) (hf c)
  generalize f7 b ^^^ f7 c = x at hx HX HF3
  have hv : rotl x 7 < 4294967296 := rotl_lt HX.out _
  have HC : Hid (∀ wz, Calls Try.prog 44 #[.int .i64 (x : Int), .int .u64 7] wz fun e w' => e = .returned (.int .i64 ((rotl x 7 : Nat) : Int)) ∧ wz = w') := fun wz => turnI_any x 7 wz HX.out (by omega) (by omega)
  have hf' := hf.upd b hv
  clear hv
  generalize rotl x 7 = v at HC hf' HF3
  have HR' : RowC ((w7.setCell ⟨g, b, none⟩ (.int .i64 (v : Int))).drew) g .i64 n (upd f7 b v) := (HR.out.set hb v).drew
  have HG' : Hid (Gs w ((w7.setCell ⟨g, b, none⟩ (.int .i64 (v : Int))).drew) g) := HG.out.step _ _
  clear HX hf HR HG
  go_wp2
  refine _root_.Go.wp_region_held (S := fun w' : World => w'.cell? ⟨g, c, none⟩ = some (.int .i64 ((f7 c : Nat) : Int)) ∧ w'.frozen? ⟨g, b, none⟩ = false) (by kernel_rfl) ?_
  have hS : (fun w' : World => w'.cell? ⟨g, c, none⟩ = some (.int .i64 ((f7 c : Nat) : Int)) ∧ w'.frozen? ⟨g, b, none⟩ = false) w7.drew := ⟨c2, z1⟩
  refine wpAnyH_take (i := 0) (v := ?_) rfl (by kernel_rfl) (by kernel_rfl) (by kernel_rfl) (fun _ _ _ h => h) (Or.inl ⟨by rfl, ?_⟩) hS ?_
  rotate_left
  · intro w hSw; obtain ⟨y1, y2⟩ := hSw; go_simp; try with_reducible rfl
  simp only [Act.put, List.getElem_toArray, List.getElem_cons_zero, List.setIfInBounds_toArray, List.set_cons_succ, List.set_cons_zero]
  refine wpAnyH_take (i := 1) (v := ?_) rfl (by kernel_rfl) (by kernel_rfl) (by kernel_rfl) (fun _ _ _ h => h) (Or.inl ⟨by rfl, ?_⟩) hS ?_
  rotate_left
  · intro w hSw; obtain ⟨y1, y2⟩ := hSw; go_simp; try with_reducible rfl
  simp only [Act.put, List.getElem_toArray, List.getElem_cons_succ, List.getElem_cons_zero, List.setIfInBounds_toArray, List.set_cons_succ, List.set_cons_zero]
  refine wpAnyH_take (i := 2) (v := ?_) rfl (by kernel_rfl) (by kernel_rfl) (by kernel_rfl) (fun _ _ _ h => h) (Or.inl ⟨by rfl, ?_⟩) hS ?_
  rotate_left
  · intro w hSw; obtain ⟨y1, y2⟩ := hSw; go_simp; try with_reducible rfl
  simp only [Act.put, List.getElem_toArray, List.getElem_cons_succ, List.getElem_cons_zero, List.setIfInBounds_toArray, List.set_cons_succ, List.set_cons_zero]
  refine wpAnyH_take (i := 3) (v := ?_) rfl (by kernel_rfl) (by kernel_rfl) (by kernel_rfl) (fun _ _ _ h => h) (Or.inl ⟨by rfl, ?_⟩) hS ?_
  rotate_left
  · intro w hSw; obtain ⟨y1, y2⟩ := hSw; go_simp; try with_reducible rfl
  simp only [Act.put, List.getElem_toArray, List.getElem_cons_succ, List.getElem_cons_zero, List.setIfInBounds_toArray, List.set_cons_succ, List.set_cons_zero]
  refine wpAnyH_take (i := 4) (v := ?_) rfl (by kernel_rfl) (by kernel_rfl) (by kernel_rfl) (fun _ _ _ h => h) (Or.inl ⟨by rfl, ?_⟩) hS ?_
  rotate_left
  · intro w hSw; obtain ⟨y1, y2⟩ := hSw; go_simp; try with_reducible rfl
  simp only [Act.put, List.getElem_toArray, List.getElem_cons_succ, List.getElem_cons_zero, List.setIfInBounds_toArray, List.set_cons_succ, List.set_cons_zero]
  refine wpAnyH_take (i := 6) (v := ?_) rfl (by kernel_rfl) (by kernel_rfl) (by kernel_rfl) (fun _ _ _ h => h) (Or.inl ⟨by rfl, ?_⟩) hS ?_
  rotate_left
  · intro w hSw; obtain ⟨y1, y2⟩ := hSw; go_simp; try with_reducible rfl
  simp only [Act.put, List.getElem_toArray, List.getElem_cons_succ, List.getElem_cons_zero, List.setIfInBounds_toArray, List.set_cons_succ, List.set_cons_zero]
  refine wpAnyH_take (i := 7) (v := ?_) rfl (by kernel_rfl) (by kernel_rfl) (by kernel_rfl) (fun _ _ _ h => h) (Or.inl ⟨by rfl, ?_⟩) hS ?_
  rotate_left
  · intro w hSw; obtain ⟨y1, y2⟩ := hSw; go_simp; try with_reducible rfl
  simp only [Act.put, List.getElem_toArray, List.getElem_cons_succ, List.getElem_cons_zero, List.setIfInBounds_toArray, List.set_cons_succ, List.set_cons_zero]
  refine wpAnyH_take (i := 8) (v := ?_) rfl (by kernel_rfl) (by kernel_rfl) (by kernel_rfl) (fun _ _ _ h => h) (Or.inl ⟨by rfl, ?_⟩) hS ?_
  rotate_left
  · intro w hSw; obtain ⟨y1, y2⟩ := hSw; go_simp; try with_reducible rfl
  simp only [Act.put, List.getElem_toArray, List.getElem_cons_succ, List.getElem_cons_zero, List.setIfInBounds_toArray, List.set_cons_succ, List.set_cons_zero]
  refine wpAnyH_take (i := 9) (v := ?_) rfl (by kernel_rfl) (by kernel_rfl) (by kernel_rfl) (fun _ _ _ h => h) (Or.inl ⟨by rfl, ?_⟩) hS ?_
  rotate_left
  · intro w hSw; obtain ⟨y1, y2⟩ := hSw; go_simp; try with_reducible rfl
  simp only [Act.put, List.getElem_toArray, List.getElem_cons_succ, List.getElem_cons_zero, List.setIfInBounds_toArray, List.set_cons_succ, List.set_cons_zero]
  refine wpAnyH_ready (rs := [5]) (by kernel_rfl) (by simp) ?_
  refine AllReadyH.cons rfl (fun K hK => ?_) AllReadyH.nil
  go_simp
  refine hK.out _ _ ⟨c2, z1⟩ (fun hS => ?_)
  clear hK K
  refine wpAnyH_take (i := 10) (v := ?_) rfl (by kernel_rfl) (by kernel_rfl) (by kernel_rfl) (fun _ _ _ h => h) (Or.inl ⟨by rfl, ?_⟩) hS ?_
  rotate_left
  · intro w hSw; obtain ⟨y1, y2⟩ := hSw; go_simp; try with_reducible rfl
  simp only [Act.put, List.getElem_toArray, List.getElem_cons_succ, List.getElem_cons_zero, List.setIfInBounds_toArray, List.set_cons_succ, List.set_cons_zero]
  refine wpAnyH_ready (rs := [11]) (by kernel_rfl) (by simp) ?_
  refine AllReadyH.cons rfl (fun K hK => ?_) AllReadyH.nil
  go_simp
  refine Calls.mono (HC.out _) ?_
  rintro e wq ⟨rfl, rfl⟩
  refine hK.out _ _ ⟨c2, z1⟩ (fun hS => ?_)
  clear hK K
  refine wpAnyH_take (i := 12) (v := ?_) rfl (by kernel_rfl) (by kernel_rfl) (by kernel_rfl) (fun _ _ _ h => h) (Or.inl ⟨by rfl, ?_⟩) hS ?_
  rotate_left
  · intro w hSw; obtain ⟨y1, y2⟩ := hSw; go_simp; try with_reducible rfl
  simp only [Act.put, List.getElem_toArray, List.getElem_cons_succ, List.getElem_cons_zero, List.setIfInBounds_toArray, List.set_cons_succ, List.set_cons_zero]
  refine wpAnyH_ready (rs := [13]) (by kernel_rfl) (by simp) ?_
  refine AllReadyH.cons rfl (fun K hK => ?_) AllReadyH.nil
  go_simp
  have hS2 : (fun w' : World => w'.cell? ⟨g, c, none⟩ = some (.int .i64 ((f7 c : Nat) : Int)) ∧ w'.frozen? ⟨g, b, none⟩ = false) ((w7.setCell ⟨g, b, none⟩ (.int .i64 (v : Int))).drew) := st_keep _ hne.out c2 z1
  refine hK.out _ _ hS2 (fun hS => ?_)
  clear hK K
  clear hS
  refine wpAnyH_done (by kernel_rfl) ?_ _
  clear c1 c2 z1 hx HC hne hS2
  generalize ((w7.setCell ⟨g, b, none⟩ (.int .i64 (v : Int))).drew) = w8 at HR' HG' ⊢
  generalize upd f7 b v = f8 at HR' hf' HF3
  go_end0
  exact ⟨rfl, HG'.out, by rw [HF3]; exact HR'⟩
end Go.Proofs.Ytkcbolcodgmpaaa
