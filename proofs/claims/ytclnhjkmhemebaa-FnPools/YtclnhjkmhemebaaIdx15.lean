/- The program's chapter 15: what is found by a closure (slices.IndexFunc), PlaceOf, CidOf. -/
import Derived.Test.YtclnhjkmhemebaaPool15
import Derived.WalkKit
import Derived.WalkLawsBesides
import Derived.WalkSpells
import Derived.OwnWalk
namespace Go.Proofs.Ytclnhjkmhemebaa
open Go.RowKit
set_option linter.unusedVariables false
/-- The place of the first one that is so, from a number on. -/
def idxF (q : Ls → Bool) : List Ls → Nat → Int
  | [], _ => -1
  | x :: l, i => if q x = true then (i : Int) else idxF q l (i + 1)
theorem idxF_cases (q : Ls → Bool) : ∀ (l : List Ls) (i : Nat), (idxF q l i = -1 ∧ ∀ y ∈ l, q y = false) ∨ ∃ k, k < l.length ∧ idxF q l i = ((i + k : Nat) : Int) ∧ q (l.getD k Ls.zero) = true ∧ ∀ j, j < k → q (l.getD j Ls.zero) = false
  | [], i => .inl ⟨rfl, fun y hy => by simp at hy⟩
  | x :: l, i => by
    cases h : q x with
    | true => exact .inr ⟨0, by simp, by rw [idxF, if_pos h]; simp, by simpa using h, fun j hj => by omega⟩
    | false =>
      rcases idxF_cases q l (i + 1) with ⟨e, ha⟩ | ⟨k, hk, e, ht, ha⟩
      · refine .inl ⟨by rw [idxF, h, e]; rfl, fun y hy => ?_⟩
        rcases List.mem_cons.1 hy with rfl | hy
        · exact h
        · exact ha y hy
      · refine .inr ⟨k + 1, by simpa using hk, by rw [idxF, h, if_neg (by decide), e]; congr 1; omega, by simpa using ht, fun j hj => ?_⟩
        cases j with
        | zero => simpa using h
        | succ j => simpa using ha j (by omega)
theorem placeL_none {c : Int} : ∀ {l : List Ls}, (∀ y ∈ l, decide (y.c = c) = false) → placeL l c = 0
  | [], _ => rfl
  | x :: l, h => by
    have h0 := h x (List.mem_cons_self ..)
    rw [placeL, if_neg (by simpa using h0)]
    exact placeL_none fun y hy => h y (List.mem_cons_of_mem _ hy)
theorem placeL_some {c : Int} : ∀ {l : List Ls} {k : Nat}, k < l.length → decide ((l.getD k Ls.zero).c = c) = true → (∀ j, j < k → decide ((l.getD j Ls.zero).c = c) = false) → placeL l c = (l.getD k Ls.zero).p
  | [], k, h, _, _ => by simp at h
  | x :: l, 0, h, h1, _ => by
    have h0 : x.c = c := by simpa using h1
    rw [placeL, if_pos h0]; rfl
  | x :: l, k + 1, h, h1, h2 => by
    have h0 : ¬ x.c = c := by simpa using h2 0 (by omega)
    rw [placeL, if_neg h0]
    exact placeL_some (by simpa using h) (by simpa using h1) fun j hj => by simpa using h2 (j + 1) (by omega)
theorem cidL_none {c : Int} : ∀ {l : List Ls}, (∀ y ∈ l, decide (y.p = c) = false) → cidL l c = -1
  | [], _ => rfl
  | x :: l, h => by
    have h0 := h x (List.mem_cons_self ..)
    rw [cidL, if_neg (by simpa using h0)]
    exact cidL_none fun y hy => h y (List.mem_cons_of_mem _ hy)
theorem cidL_some {c : Int} : ∀ {l : List Ls} {k : Nat}, k < l.length → decide ((l.getD k Ls.zero).p = c) = true → (∀ j, j < k → decide ((l.getD j Ls.zero).p = c) = false) → cidL l c = (l.getD k Ls.zero).c
  | [], k, h, _, _ => by simp at h
  | x :: l, 0, h, h1, _ => by
    have h0 : x.p = c := by simpa using h1
    rw [cidL, if_pos h0]; rfl
  | x :: l, k + 1, h, h1, h2 => by
    have h0 : ¬ x.p = c := by simpa using h2 0 (by omega)
    rw [cidL, if_neg h0]
    exact cidL_some (by simpa using h) (by simpa using h1) fun j hj => by simpa using h2 (j + 1) (by omega)
set_option maxHeartbeats 800000 in
/-- slices.IndexFunc over leases, with whatever function that answers q. -/
theorem idxLs_any (F : FuncId) (cs : Array Value) (q : Ls → Bool) (eg : ∀ args w, (callFunc F args).run Try.prog w = .ok (.enter F args) w) (a : Option Addr) (cap : Nat) (ls : List Ls) (w : World) (hl : ls.length ≤ 1048576) (hr : RowLs w.heap.size w a ls)
    (hx : ∀ (y : Ls) (w' : World), Below w.heap.size w w' → Calls Try.prog F (#[.agg #[.int .i64 y.p, .int .i64 y.c]] ++ cs) w' fun e w'' => e = .returned (.bool (q y)) ∧ Below w'.heap.size w' w'') :
    Calls Try.prog 80 #[.slice a ls.length cap, .func (.func F) #[] cs] w fun e w' => e = .returned (.int .i64 (idxF q ls 0)) ∧ Below w.heap.size w w' := by
  have HR : Hid (RowLs w.heap.size w a ls) := hr
  have HX : Hid _ := hx
  clear hr hx
  obtain ⟨V, HV⟩ : ∃ V, Hid (idxF q ls 0 = V) := ⟨_, rfl⟩
  rw [HV.out]
  go_enter Try.func80, Try.ntmps80
  go_wp2
  go_loopw [8] (fun i wr => ∃ k : Nat, k ≤ ls.length ∧ i = .int .i64 (k : Int) ∧ Hid (idxF q (ls.drop k) k = V) ∧ Below w.heap.size w wr) (fun i _ => ls.length - (intOf i).toNat)
  case atStart => exact ⟨0, Nat.zero_le _, rfl, HV, Below.refl _ _⟩
  case round =>
    obtain ⟨k, hk, rfl, HK, hbel⟩ := hrel
    by_cases hlt : k < ls.length
    · obtain ⟨b, off, rfl⟩ := HR.out.addr hlt
      obtain ⟨hb, c0, c1⟩ := HR.out.at hbel hlt
      have hi0 : (0 : Int) ≤ (k : Int) := by omega
      have hi1 : (k : Int) < (ls.length : Int) := by omega
      have HD : Hid (idxF q (ls.drop k) k = if q (ls.getD k Ls.zero) = true then (k : Int) else idxF q (ls.drop (k + 1)) (k + 1)) := by show _ = _; rw [drop_cons hlt, idxF]
      generalize ls.getD k Ls.zero = y at c0 c1 HD
      have HC : Hid _ := HX.out y wr hbel
      obtain ⟨d, hd⟩ : ∃ d, q y = d := ⟨_, rfl⟩
      rw [hd] at HC
      have HD2 : Hid (q y = d) := hd
      clear hd
      go_wp2_with fail
      refine Calls.mono HC.out ?_
      rintro e w2 ⟨rfl, hb2⟩
      have HB2 : Hid (Below w.heap.size w w2) := hbel.trans (hb2.mono hbel.size)
      clear HC hb2 hbel c0 c1
      cases d with
      | true =>
        have HE : Hid ((k : Int) = V) := by show _ = _; rw [← HK.out, HD.out, if_pos HD2.out]
        clear HD HK
        go_wp2
        go_ret
        exact ⟨by rw [← HE.out]; rfl, HB2.out⟩
      | false =>
        have HE : Hid (idxF q (ls.drop (k + 1)) (k + 1) = V) := by show _ = _; rw [← HK.out, HD.out, HD2.out]; rfl
        clear HD HK
        go_wp2
        go_roundw
        case rel => exact ⟨k + 1, by omega, by go_num, HE, HB2.out⟩
        case measure => simp [intOf]; omega
    · obtain rfl : k = ls.length := by omega
      have HE : Hid (-1 = V) := by show _ = _; rw [← HK.out, List.drop_length, idxF]
      clear HK
      go_wp2
      go_ret
      exact ⟨by rw [← HE.out]; rfl, hbel⟩
set_option maxHeartbeats 400000 in
theorem placeQ (g : Nat) (c : Int) (y : Ls) (w : World) (hg : w.heap[g]? = some (.cells #[.int .i64 c] 3 (0, 0))) :
    Calls Try.prog 81 #[.agg #[.int .i64 y.p, .int .i64 y.c], .pointer (some ⟨g, 0, none⟩)] w fun e w' => e = .returned (.bool (decide (y.c = c))) ∧ Below w.heap.size w w' := by
  have c0 : w.cell? ⟨g, 0, none⟩ = some (.int .i64 c) := (cell_of_row _ _ 0 _ _ _ hg).trans rfl
  have hlt : g < w.heap.size := (Array.getElem?_eq_some_iff.1 hg).1
  have HB : Hid (Below w.heap.size w (w.alloc (.cells #[.int .i64 y.p, .int .i64 y.c] 103))) := (Below.refl _ _).alloc (Nat.le_refl _) _
  clear hg
  go_enter Try.func81, Try.ntmps81
  go_wp2
  go_ret
  exact ⟨by first | rfl | (congr 2; exact beq_eq_decide _ _), HB.out⟩
set_option maxHeartbeats 400000 in
theorem givenQ (g : Nat) (c : Int) (y : Ls) (w : World) (hg : w.heap[g]? = some (.cells #[.int .i64 c] 3 (0, 0))) :
    Calls Try.prog 78 #[.agg #[.int .i64 y.p, .int .i64 y.c], .pointer (some ⟨g, 0, none⟩)] w fun e w' => e = .returned (.bool (decide (y.c = c))) ∧ Below w.heap.size w w' := by
  have c0 : w.cell? ⟨g, 0, none⟩ = some (.int .i64 c) := (cell_of_row _ _ 0 _ _ _ hg).trans rfl
  have hlt : g < w.heap.size := (Array.getElem?_eq_some_iff.1 hg).1
  have HB : Hid (Below w.heap.size w (w.alloc (.cells #[.int .i64 y.p, .int .i64 y.c] 103))) := (Below.refl _ _).alloc (Nat.le_refl _) _
  clear hg
  go_enter Try.func78, Try.ntmps78
  go_wp2
  go_ret
  exact ⟨by first | rfl | (congr 2; exact beq_eq_decide _ _), HB.out⟩
set_option maxHeartbeats 400000 in
theorem cidQ (g : Nat) (c : Int) (y : Ls) (w : World) (hg : w.heap[g]? = some (.cells #[.int .i64 c] 3 (0, 0))) :
    Calls Try.prog 82 #[.agg #[.int .i64 y.p, .int .i64 y.c], .pointer (some ⟨g, 0, none⟩)] w fun e w' => e = .returned (.bool (decide (y.p = c))) ∧ Below w.heap.size w w' := by
  have c0 : w.cell? ⟨g, 0, none⟩ = some (.int .i64 c) := (cell_of_row _ _ 0 _ _ _ hg).trans rfl
  have hlt : g < w.heap.size := (Array.getElem?_eq_some_iff.1 hg).1
  have HB : Hid (Below w.heap.size w (w.alloc (.cells #[.int .i64 y.p, .int .i64 y.c] 103))) := (Below.refl _ _).alloc (Nat.le_refl _) _
  clear hg
  go_enter Try.func82, Try.ntmps82
  go_wp2
  go_ret
  exact ⟨by first | rfl | (congr 2; exact beq_eq_decide _ _), HB.out⟩
set_option maxHeartbeats 800000 in
theorem implPlace_any (a : Option Addr) (cap : Nat) (ls : List Ls) (c : Int) (w : World) (hl : ls.length ≤ 1048576) (hf : ∀ y ∈ ls, y.Fits) (hr : RowLs w.heap.size w a ls) :
    Calls Try.prog 25 #[.slice a ls.length cap, .int .i64 c] w fun e w' => e = .returned (.int .i64 (placeL ls c)) ∧ Below w.heap.size w w' := by
  have hb0 : Below w.heap.size w (w.alloc (.cells #[.int .i64 c] 3)) := (Below.refl _ _).alloc (Nat.le_refl _) _
  have HG : Hid ((w.alloc (.cells #[.int .i64 c] 3)).heap[w.heap.size]? = some (.cells #[.int .i64 c] 3 (0, 0))) := heap_alloc_new w _
  have hs0 : (w.alloc (.cells #[.int .i64 c] 3)).heap.size = w.heap.size + 1 := by simp
  have HC : Hid _ := idxLs_any 81 #[.pointer (some ⟨w.heap.size, 0, none⟩)] (fun y => decide (y.c = c)) Try.call81 a cap ls (w.alloc (.cells #[.int .i64 c] 3)) hl (hr.grown hb0)
    (fun y w' hb => placeQ w.heap.size c y w' ((hb.block _ (by omega)).trans HG.out))
  have HB0 : Hid (Below w.heap.size w (w.alloc (.cells #[.int .i64 c] 3))) := hb0
  have HR : Hid (RowLs w.heap.size w a ls) := hr
  clear hr hb0 HG
  obtain ⟨V, HV⟩ : ∃ V, Hid (placeL ls c = V) := ⟨_, rfl⟩
  rw [HV.out]
  rcases idxF_cases (fun y => decide (y.c = c)) ls 0 with ⟨e0, hn⟩ | ⟨k, hk, e0, ht, hn⟩
  · have HE : Hid (0 = V) := by show _ = _; rw [← HV.out, placeL_none hn]
    rw [e0] at HC
    clear hn e0 HV
    go_enter Try.func25, Try.ntmps25
    go_wp2_with fail
    refine Calls.mono HC.out ?_
    rintro e w2 ⟨rfl, hb2⟩
    have HB2 : Hid (Below w.heap.size w w2) := HB0.out.trans (hb2.mono HB0.out.size)
    clear HC hb2
    go_wp2
    go_ret
    exact ⟨by rw [← HE.out]; rfl, HB2.out⟩
  · have HE : Hid ((ls.getD k Ls.zero).p = V) := by show _ = _; rw [← HV.out, placeL_some hk ht hn]
    rw [e0, show 0 + k = k by omega] at HC
    obtain ⟨b, off, rfl⟩ := HR.out.addr hk
    have hi0 : (0 : Int) ≤ (k : Int) := by omega
    have hi1 : (k : Int) < (ls.length : Int) := by omega
    have HKL : Hid (k < ls.length) := hk
    clear hn e0 HV ht hk
    go_enter Try.func25, Try.ntmps25
    go_wp2_with fail
    refine Calls.mono HC.out ?_
    rintro e w2 ⟨rfl, hb2⟩
    have HB2 : Hid (Below w.heap.size w w2) := HB0.out.trans (hb2.mono HB0.out.size)
    obtain ⟨hb, c0, c1⟩ := HR.out.at HB2.out HKL.out
    generalize ls.getD k Ls.zero = y at c0 c1 HE
    clear HC hb2
    go_wp2
    go_ret
    exact ⟨by rw [← HE.out]; rfl, HB2.out⟩
set_option maxHeartbeats 800000 in
theorem implCid_any (a : Option Addr) (cap : Nat) (ls : List Ls) (c : Int) (w : World) (hl : ls.length ≤ 1048576) (hf : ∀ y ∈ ls, y.Fits) (hr : RowLs w.heap.size w a ls) :
    Calls Try.prog 27 #[.slice a ls.length cap, .int .i64 c] w fun e w' => e = .returned (.int .i64 (cidL ls c)) ∧ Below w.heap.size w w' := by
  have hb0 : Below w.heap.size w (w.alloc (.cells #[.int .i64 c] 3)) := (Below.refl _ _).alloc (Nat.le_refl _) _
  have HG : Hid ((w.alloc (.cells #[.int .i64 c] 3)).heap[w.heap.size]? = some (.cells #[.int .i64 c] 3 (0, 0))) := heap_alloc_new w _
  have hs0 : (w.alloc (.cells #[.int .i64 c] 3)).heap.size = w.heap.size + 1 := by simp
  have HC : Hid _ := idxLs_any 82 #[.pointer (some ⟨w.heap.size, 0, none⟩)] (fun y => decide (y.p = c)) Try.call82 a cap ls (w.alloc (.cells #[.int .i64 c] 3)) hl (hr.grown hb0)
    (fun y w' hb => cidQ w.heap.size c y w' ((hb.block _ (by omega)).trans HG.out))
  have HB0 : Hid (Below w.heap.size w (w.alloc (.cells #[.int .i64 c] 3))) := hb0
  have HR : Hid (RowLs w.heap.size w a ls) := hr
  clear hr hb0 HG
  obtain ⟨V, HV⟩ : ∃ V, Hid (cidL ls c = V) := ⟨_, rfl⟩
  rw [HV.out]
  rcases idxF_cases (fun y => decide (y.p = c)) ls 0 with ⟨e0, hn⟩ | ⟨k, hk, e0, ht, hn⟩
  · have HE : Hid (-1 = V) := by show _ = _; rw [← HV.out, cidL_none hn]
    rw [e0] at HC
    clear hn e0 HV
    go_enter Try.func27, Try.ntmps27
    go_wp2_with fail
    refine Calls.mono HC.out ?_
    rintro e w2 ⟨rfl, hb2⟩
    have HB2 : Hid (Below w.heap.size w w2) := HB0.out.trans (hb2.mono HB0.out.size)
    clear HC hb2
    go_wp2
    go_ret
    exact ⟨by rw [← HE.out]; rfl, HB2.out⟩
  · have HE : Hid ((ls.getD k Ls.zero).c = V) := by show _ = _; rw [← HV.out, cidL_some hk ht hn]
    rw [e0, show 0 + k = k by omega] at HC
    obtain ⟨b, off, rfl⟩ := HR.out.addr hk
    have hi0 : (0 : Int) ≤ (k : Int) := by omega
    have hi1 : (k : Int) < (ls.length : Int) := by omega
    have HKL : Hid (k < ls.length) := hk
    clear hn e0 HV ht hk
    go_enter Try.func27, Try.ntmps27
    go_wp2_with fail
    refine Calls.mono HC.out ?_
    rintro e w2 ⟨rfl, hb2⟩
    have HB2 : Hid (Below w.heap.size w w2) := HB0.out.trans (hb2.mono HB0.out.size)
    obtain ⟨hb, c0, c1⟩ := HR.out.at HB2.out HKL.out
    generalize ls.getD k Ls.zero = y at c0 c1 HE
    clear HC hb2
    go_wp2
    go_ret
    exact ⟨by rw [← HE.out]; rfl, HB2.out⟩
end Go.Proofs.Ytclnhjkmhemebaa
