/- Chapter 11's reader of words (the program's): a number, a nonce, a pub, the end; the server's words and the client's. -/
import Derived.Test.YtagjdhiicpglaaaWrd11
import Derived.Deep.RegionHeld3
namespace Go.Proofs.Ytagjdhiicpglaaa
open Go.RowKit
set_option linter.unusedVariables false
set_option maxHeartbeats 1600000 in
set_option maxRecDepth 20000 in
theorem num_ok (g : Nat) (a : Option Addr) (cap : Nat) (ns : List Nd) (k : Int) (k1 x v : Int) (w : World) (hs : Rd g a cap ns k w)
    (H0 : ∀ wz, Rd g a cap ns k wz → Calls Try.prog 30 #[.pointer (some ⟨g, 0, none⟩)] wz (RdP g a cap ns (.int .i64 x) k1 wz))
    (H1 : ∀ wz, Rd g a cap ns k1 wz → Calls Try.prog 29 #[.pointer (some ⟨g, 0, none⟩), .int .i64 x] wz fun e w' => e = .returned (.int .i64 v) ∧ Below wz.heap.size wz w') :
    Calls Try.prog 23 #[.pointer (some ⟨g, 0, none⟩)] w (RdP g a cap ns (.int .i64 v) k1 w) := by
  have HS0 : Hid (Rd g a cap ns k w ∧ w.grownBy w (some g)) := ⟨hs, grw_below (Below.refl _ _)⟩
  have IH0 : Hid (∀ wz, Rd g a cap ns k wz → Calls Try.prog 30 #[.pointer (some ⟨g, 0, none⟩)] wz (RdP g a cap ns (.int .i64 x) k1 wz)) := H0
  clear H0
  have IH1 : Hid (∀ wz, Rd g a cap ns k1 wz → Calls Try.prog 29 #[.pointer (some ⟨g, 0, none⟩), .int .i64 x] wz fun e w' => e = .returned (.int .i64 v) ∧ Below wz.heap.size wz w') := H1
  clear H1
  clear hs
  go_enter Try.func23, Try.ntmps23
  go_wp2_with fail
  refine Calls.mono (IH0.out _ HS0.out.1) ?_
  rintro e w1 ⟨rfl, hr, hg⟩
  have HS1 : Hid (Rd g a cap ns _ w1 ∧ w.grownBy w1 (some g)) := ⟨hr, grw_more HS0.out.2 hg⟩
  clear hr hg HS0
  go_wp2_with fail
  refine Calls.mono (IH1.out _ HS1.out.1) ?_
  rintro e w2 ⟨rfl, hb⟩
  have HS2 : Hid (Rd g a cap ns _ w2 ∧ w.grownBy w2 (some g)) := ⟨HS1.out.1.below hb, grw_more HS1.out.2 (grw_below hb)⟩
  clear hb HS1
  go_wp2
  go_ret
  exact ⟨rfl, HS2.out.1, HS2.out.2⟩
set_option maxHeartbeats 1600000 in
set_option maxRecDepth 20000 in
theorem num_f0 (g : Nat) (a : Option Addr) (cap : Nat) (ns : List Nd) (k : Int)  (w : World) (hs : Rd g a cap ns k w)
    (H0 : ∀ wz, Rd g a cap ns k wz → Calls Try.prog 30 #[.pointer (some ⟨g, 0, none⟩)] wz (RdN g wz)) :
    Calls Try.prog 23 #[.pointer (some ⟨g, 0, none⟩)] w (RdN g w) := by
  have HS0 : Hid (Rd g a cap ns k w ∧ w.grownBy w (some g)) := ⟨hs, grw_below (Below.refl _ _)⟩
  have IH0 : Hid (∀ wz, Rd g a cap ns k wz → Calls Try.prog 30 #[.pointer (some ⟨g, 0, none⟩)] wz (RdN g wz)) := H0
  clear H0
  clear hs
  go_enter Try.func23, Try.ntmps23
  go_wp2_with fail
  refine Calls.mono (IH0.out _ HS0.out.1) ?_
  rintro e w1 ⟨rfl, hg⟩
  have HE : Hid (w.grownBy w1 (some g)) := grw_more HS0.out.2 hg
  clear hg HS0
  go_wp2
  exact ⟨rfl, rfl, HE.out⟩
set_option maxHeartbeats 1600000 in
set_option maxRecDepth 20000 in
theorem num_f1 (g : Nat) (a : Option Addr) (cap : Nat) (ns : List Nd) (k : Int) (k1 x : Int) (w : World) (hs : Rd g a cap ns k w)
    (H0 : ∀ wz, Rd g a cap ns k wz → Calls Try.prog 30 #[.pointer (some ⟨g, 0, none⟩)] wz (RdP g a cap ns (.int .i64 x) k1 wz))
    (H1 : ∀ wz, Rd g a cap ns k1 wz → Calls Try.prog 29 #[.pointer (some ⟨g, 0, none⟩), .int .i64 x] wz fun e w' => e = notP ∧ Below wz.heap.size wz w') :
    Calls Try.prog 23 #[.pointer (some ⟨g, 0, none⟩)] w (RdN g w) := by
  have HS0 : Hid (Rd g a cap ns k w ∧ w.grownBy w (some g)) := ⟨hs, grw_below (Below.refl _ _)⟩
  have IH0 : Hid (∀ wz, Rd g a cap ns k wz → Calls Try.prog 30 #[.pointer (some ⟨g, 0, none⟩)] wz (RdP g a cap ns (.int .i64 x) k1 wz)) := H0
  clear H0
  have IH1 : Hid (∀ wz, Rd g a cap ns k1 wz → Calls Try.prog 29 #[.pointer (some ⟨g, 0, none⟩), .int .i64 x] wz fun e w' => e = notP ∧ Below wz.heap.size wz w') := H1
  clear H1
  clear hs
  go_enter Try.func23, Try.ntmps23
  go_wp2_with fail
  refine Calls.mono (IH0.out _ HS0.out.1) ?_
  rintro e w1 ⟨rfl, hr, hg⟩
  have HS1 : Hid (Rd g a cap ns _ w1 ∧ w.grownBy w1 (some g)) := ⟨hr, grw_more HS0.out.2 hg⟩
  clear hr hg HS0
  go_wp2_with fail
  refine Calls.mono (IH1.out _ HS1.out.1) ?_
  rintro e w9 ⟨rfl, hb⟩
  have HE : Hid (w.grownBy w9 (some g)) := grw_more HS1.out.2 (grw_below hb)
  clear hb
  go_wp2
  exact ⟨rfl, rfl, HE.out⟩
set_option maxHeartbeats 1600000 in
set_option maxRecDepth 20000 in
theorem end_ok (g : Nat) (a : Option Addr) (cap : Nat) (ns : List Nd) (k : Int) (w : World) (hl : ns.length ≤ 1048576) (hs : Rd g a cap ns k w) (h0 : numIs ns k 0 = true) : Calls Try.prog 26 #[.pointer (some ⟨g, 0, none⟩)] w (fun e w' => e = .returned (.tuple #[]) ∧ Rd g a cap ns k w' ∧ w.grownBy w' (some g)) := by
  have HS : Hid (Rd g a cap ns k w) := hs
  have c0 : w.cell? ⟨g, 0, none⟩ = some (.slice a ns.length cap) := (cell_of_row _ _ 0 _ _ _ hs.1).trans rfl
  have c1 : w.cell? ⟨g, 1, none⟩ = some (.int .i64 k) := (cell_of_row _ _ 1 _ _ _ hs.1).trans rfl
  have HA : Hid (Calls Try.prog 32 #[.agg #[.slice a ns.length cap], .int .i64 k, .int .i64 0] w.drew fun e w' => e = .returned (.bool true) ∧ Below w.heap.size w w') := by
    have hb : Below w.heap.size w w.drew := (Below.refl _ _).drew
    have := isAtom_any a cap ns k 0 w.drew hl (hs.row.grown hb)
    rw [show (isK ns k 1 && decide (numV ns k = 0)) = true from h0] at this
    exact this.mono fun e w' ⟨h1, h2⟩ => ⟨h1, hb.trans (h2.mono hb.size)⟩
  clear hs h0
  go_enter Try.func26, Try.ntmps26
  go_wp2_with fail
  refine _root_.Go.wp_region_held (S := fun w' => w'.cell? ⟨g, 0, none⟩ = some (.slice a ns.length cap) ∧ w'.cell? ⟨g, 1, none⟩ = some (.int .i64 k)) (by kernel_rfl) ?_
  have hS : (fun w' : World => w'.cell? ⟨g, 0, none⟩ = some (.slice a ns.length cap) ∧ w'.cell? ⟨g, 1, none⟩ = some (.int .i64 k)) w.drew := ⟨c0, c1⟩
  refine wpAnyH_take (i := 0) (v := ?_) rfl (by kernel_rfl) (by kernel_rfl) (by kernel_rfl) (fun _ _ _ h => h) (Or.inl ⟨by rfl, ?_⟩) hS ?_
  rotate_left
  · intro w hSw; obtain ⟨y0, y1⟩ := hSw; go_simp; try with_reducible rfl
  simp only [Act.put, List.getElem_toArray, List.getElem_cons_zero, List.setIfInBounds_toArray, List.set_cons_succ, List.set_cons_zero]
  refine wpAnyH_take (i := 1) (v := ?_) rfl (by kernel_rfl) (by kernel_rfl) (by kernel_rfl) (fun _ _ _ h => h) (Or.inl ⟨by rfl, ?_⟩) hS ?_
  rotate_left
  · intro w hSw; obtain ⟨y0, y1⟩ := hSw; go_simp; try with_reducible rfl
  simp only [Act.put, List.getElem_toArray, List.getElem_cons_succ, List.getElem_cons_zero, List.setIfInBounds_toArray, List.set_cons_succ, List.set_cons_zero]
  refine wpAnyH_take (i := 2) (v := ?_) rfl (by kernel_rfl) (by kernel_rfl) (by kernel_rfl) (fun _ _ _ h => h) (Or.inl ⟨by rfl, ?_⟩) hS ?_
  rotate_left
  · intro w hSw; obtain ⟨y0, y1⟩ := hSw; go_simp; try with_reducible rfl
  simp only [Act.put, List.getElem_toArray, List.getElem_cons_succ, List.getElem_cons_zero, List.setIfInBounds_toArray, List.set_cons_succ, List.set_cons_zero]
  refine wpAnyH_take (i := 3) (v := ?_) rfl (by kernel_rfl) (by kernel_rfl) (by kernel_rfl) (fun _ _ _ h => h) (Or.inl ⟨by rfl, ?_⟩) hS ?_
  rotate_left
  · intro w hSw; obtain ⟨y0, y1⟩ := hSw; go_simp; try with_reducible rfl
  simp only [Act.put, List.getElem_toArray, List.getElem_cons_succ, List.getElem_cons_zero, List.setIfInBounds_toArray, List.set_cons_succ, List.set_cons_zero]
  refine wpAnyH_take (i := 4) (v := ?_) rfl (by kernel_rfl) (by kernel_rfl) (by kernel_rfl) (fun _ _ _ h => h) (Or.inl ⟨by rfl, ?_⟩) hS ?_
  rotate_left
  · intro w hSw; obtain ⟨y0, y1⟩ := hSw; go_simp; try with_reducible rfl
  simp only [Act.put, List.getElem_toArray, List.getElem_cons_succ, List.getElem_cons_zero, List.setIfInBounds_toArray, List.set_cons_succ, List.set_cons_zero]
  refine wpAnyH_take (i := 5) (v := ?_) rfl (by kernel_rfl) (by kernel_rfl) (by kernel_rfl) (fun _ _ _ h => h) (Or.inl ⟨by rfl, ?_⟩) hS ?_
  rotate_left
  · intro w hSw; obtain ⟨y0, y1⟩ := hSw; go_simp; try with_reducible rfl
  simp only [Act.put, List.getElem_toArray, List.getElem_cons_succ, List.getElem_cons_zero, List.setIfInBounds_toArray, List.set_cons_succ, List.set_cons_zero]
  refine wpAnyH_take (i := 6) (v := ?_) rfl (by kernel_rfl) (by kernel_rfl) (by kernel_rfl) (fun _ _ _ h => h) (Or.inl ⟨by rfl, ?_⟩) hS ?_
  rotate_left
  · intro w hSw; obtain ⟨y0, y1⟩ := hSw; go_simp; try with_reducible rfl
  simp only [Act.put, List.getElem_toArray, List.getElem_cons_succ, List.getElem_cons_zero, List.setIfInBounds_toArray, List.set_cons_succ, List.set_cons_zero]
  refine wpAnyH_take (i := 7) (v := ?_) rfl (by kernel_rfl) (by kernel_rfl) (by kernel_rfl) (fun _ _ _ h => h) (Or.inl ⟨by rfl, ?_⟩) hS ?_
  rotate_left
  · intro w hSw; obtain ⟨y0, y1⟩ := hSw; go_simp; try with_reducible rfl
  simp only [Act.put, List.getElem_toArray, List.getElem_cons_succ, List.getElem_cons_zero, List.setIfInBounds_toArray, List.set_cons_succ, List.set_cons_zero]
  refine wpAnyH_take (i := 8) (v := ?_) rfl (by kernel_rfl) (by kernel_rfl) (by kernel_rfl) (fun _ _ _ h => h) (Or.inl ⟨by rfl, ?_⟩) hS ?_
  rotate_left
  · intro w hSw; obtain ⟨y0, y1⟩ := hSw; go_simp; try with_reducible rfl
  simp only [Act.put, List.getElem_toArray, List.getElem_cons_succ, List.getElem_cons_zero, List.setIfInBounds_toArray, List.set_cons_succ, List.set_cons_zero]
  refine wpAnyH_ready (rs := [9]) (by kernel_rfl) (by simp) ?_
  refine AllReadyH.cons rfl (fun K hK => ?_) AllReadyH.nil
  go_wp2_with fail
  refine Calls.mono HA.out ?_
  rintro e w1 ⟨rfl, hb1⟩
  refine hK.out _ _ ⟨(hb1.cell (p := ⟨g, 0, none⟩) HS.out.lt).trans c0, (hb1.cell (p := ⟨g, 1, none⟩) HS.out.lt).trans c1⟩ (fun hS => ?_)
  have HE : Hid (Rd g a cap ns k w1 ∧ w.grownBy w1 (some g)) := ⟨HS.out.below hb1, grw_below hb1⟩
  clear hK K hb1 c0 c1 HA HS
  refine wpAnyH_ready (rs := [10]) (by kernel_rfl) (by simp) ?_
  refine AllReadyH.cons rfl (fun K hK => ?_) AllReadyH.nil
  go_simp
  refine (want_yes _ _).mono ?_
  rintro e w2 ⟨rfl, rfl⟩
  refine hK.out _ _ hS (fun hS => ?_)
  clear hK K hS
  refine wpAnyH_done (by kernel_rfl) ?_ _
  go_wp2
  go_end0
  exact ⟨rfl, HE.out.1, HE.out.2⟩
set_option maxHeartbeats 1600000 in
set_option maxRecDepth 20000 in
theorem end_f (g : Nat) (a : Option Addr) (cap : Nat) (ns : List Nd) (k : Int) (w : World) (hl : ns.length ≤ 1048576) (hs : Rd g a cap ns k w) (h0 : numIs ns k 0 = false) : Calls Try.prog 26 #[.pointer (some ⟨g, 0, none⟩)] w (RdN g w) := by
  have HS : Hid (Rd g a cap ns k w) := hs
  have c0 : w.cell? ⟨g, 0, none⟩ = some (.slice a ns.length cap) := (cell_of_row _ _ 0 _ _ _ hs.1).trans rfl
  have c1 : w.cell? ⟨g, 1, none⟩ = some (.int .i64 k) := (cell_of_row _ _ 1 _ _ _ hs.1).trans rfl
  have HA : Hid (Calls Try.prog 32 #[.agg #[.slice a ns.length cap], .int .i64 k, .int .i64 0] w.drew fun e w' => e = .returned (.bool false) ∧ Below w.heap.size w w') := by
    have hb : Below w.heap.size w w.drew := (Below.refl _ _).drew
    have := isAtom_any a cap ns k 0 w.drew hl (hs.row.grown hb)
    rw [show (isK ns k 1 && decide (numV ns k = 0)) = false from h0] at this
    exact this.mono fun e w' ⟨h1, h2⟩ => ⟨h1, hb.trans (h2.mono hb.size)⟩
  clear hs h0
  go_enter Try.func26, Try.ntmps26
  go_wp2_with fail
  refine _root_.Go.wp_region_held (S := fun w' => w'.cell? ⟨g, 0, none⟩ = some (.slice a ns.length cap) ∧ w'.cell? ⟨g, 1, none⟩ = some (.int .i64 k)) (by kernel_rfl) ?_
  have hS : (fun w' : World => w'.cell? ⟨g, 0, none⟩ = some (.slice a ns.length cap) ∧ w'.cell? ⟨g, 1, none⟩ = some (.int .i64 k)) w.drew := ⟨c0, c1⟩
  refine wpAnyH_take (i := 0) (v := ?_) rfl (by kernel_rfl) (by kernel_rfl) (by kernel_rfl) (fun _ _ _ h => h) (Or.inl ⟨by rfl, ?_⟩) hS ?_
  rotate_left
  · intro w hSw; obtain ⟨y0, y1⟩ := hSw; go_simp; try with_reducible rfl
  simp only [Act.put, List.getElem_toArray, List.getElem_cons_zero, List.setIfInBounds_toArray, List.set_cons_succ, List.set_cons_zero]
  refine wpAnyH_take (i := 1) (v := ?_) rfl (by kernel_rfl) (by kernel_rfl) (by kernel_rfl) (fun _ _ _ h => h) (Or.inl ⟨by rfl, ?_⟩) hS ?_
  rotate_left
  · intro w hSw; obtain ⟨y0, y1⟩ := hSw; go_simp; try with_reducible rfl
  simp only [Act.put, List.getElem_toArray, List.getElem_cons_succ, List.getElem_cons_zero, List.setIfInBounds_toArray, List.set_cons_succ, List.set_cons_zero]
  refine wpAnyH_take (i := 2) (v := ?_) rfl (by kernel_rfl) (by kernel_rfl) (by kernel_rfl) (fun _ _ _ h => h) (Or.inl ⟨by rfl, ?_⟩) hS ?_
  rotate_left
  · intro w hSw; obtain ⟨y0, y1⟩ := hSw; go_simp; try with_reducible rfl
  simp only [Act.put, List.getElem_toArray, List.getElem_cons_succ, List.getElem_cons_zero, List.setIfInBounds_toArray, List.set_cons_succ, List.set_cons_zero]
  refine wpAnyH_take (i := 3) (v := ?_) rfl (by kernel_rfl) (by kernel_rfl) (by kernel_rfl) (fun _ _ _ h => h) (Or.inl ⟨by rfl, ?_⟩) hS ?_
  rotate_left
  · intro w hSw; obtain ⟨y0, y1⟩ := hSw; go_simp; try with_reducible rfl
  simp only [Act.put, List.getElem_toArray, List.getElem_cons_succ, List.getElem_cons_zero, List.setIfInBounds_toArray, List.set_cons_succ, List.set_cons_zero]
  refine wpAnyH_take (i := 4) (v := ?_) rfl (by kernel_rfl) (by kernel_rfl) (by kernel_rfl) (fun _ _ _ h => h) (Or.inl ⟨by rfl, ?_⟩) hS ?_
  rotate_left
  · intro w hSw; obtain ⟨y0, y1⟩ := hSw; go_simp; try with_reducible rfl
  simp only [Act.put, List.getElem_toArray, List.getElem_cons_succ, List.getElem_cons_zero, List.setIfInBounds_toArray, List.set_cons_succ, List.set_cons_zero]
  refine wpAnyH_take (i := 5) (v := ?_) rfl (by kernel_rfl) (by kernel_rfl) (by kernel_rfl) (fun _ _ _ h => h) (Or.inl ⟨by rfl, ?_⟩) hS ?_
  rotate_left
  · intro w hSw; obtain ⟨y0, y1⟩ := hSw; go_simp; try with_reducible rfl
  simp only [Act.put, List.getElem_toArray, List.getElem_cons_succ, List.getElem_cons_zero, List.setIfInBounds_toArray, List.set_cons_succ, List.set_cons_zero]
  refine wpAnyH_take (i := 6) (v := ?_) rfl (by kernel_rfl) (by kernel_rfl) (by kernel_rfl) (fun _ _ _ h => h) (Or.inl ⟨by rfl, ?_⟩) hS ?_
  rotate_left
  · intro w hSw; obtain ⟨y0, y1⟩ := hSw; go_simp; try with_reducible rfl
  simp only [Act.put, List.getElem_toArray, List.getElem_cons_succ, List.getElem_cons_zero, List.setIfInBounds_toArray, List.set_cons_succ, List.set_cons_zero]
  refine wpAnyH_take (i := 7) (v := ?_) rfl (by kernel_rfl) (by kernel_rfl) (by kernel_rfl) (fun _ _ _ h => h) (Or.inl ⟨by rfl, ?_⟩) hS ?_
  rotate_left
  · intro w hSw; obtain ⟨y0, y1⟩ := hSw; go_simp; try with_reducible rfl
  simp only [Act.put, List.getElem_toArray, List.getElem_cons_succ, List.getElem_cons_zero, List.setIfInBounds_toArray, List.set_cons_succ, List.set_cons_zero]
  refine wpAnyH_take (i := 8) (v := ?_) rfl (by kernel_rfl) (by kernel_rfl) (by kernel_rfl) (fun _ _ _ h => h) (Or.inl ⟨by rfl, ?_⟩) hS ?_
  rotate_left
  · intro w hSw; obtain ⟨y0, y1⟩ := hSw; go_simp; try with_reducible rfl
  simp only [Act.put, List.getElem_toArray, List.getElem_cons_succ, List.getElem_cons_zero, List.setIfInBounds_toArray, List.set_cons_succ, List.set_cons_zero]
  refine wpAnyH_ready (rs := [9]) (by kernel_rfl) (by simp) ?_
  refine AllReadyH.cons rfl (fun K hK => ?_) AllReadyH.nil
  go_wp2_with fail
  refine Calls.mono HA.out ?_
  rintro e w1 ⟨rfl, hb1⟩
  refine hK.out _ _ ⟨(hb1.cell (p := ⟨g, 0, none⟩) HS.out.lt).trans c0, (hb1.cell (p := ⟨g, 1, none⟩) HS.out.lt).trans c1⟩ (fun hS => ?_)
  have HE : Hid (Rd g a cap ns k w1 ∧ w.grownBy w1 (some g)) := ⟨HS.out.below hb1, grw_below hb1⟩
  clear hK K hb1 c0 c1 HA HS
  refine wpAnyH_ready (rs := [10]) (by kernel_rfl) (by simp) ?_
  refine AllReadyH.cons rfl (fun K hK => ?_) AllReadyH.nil
  go_simp
  refine (want_no _ _).mono ?_
  rintro e w2 ⟨rfl, rfl⟩
  exact And.intro rfl (And.intro rfl HE.out.2)
end Go.Proofs.Ytagjdhiicpglaaa
