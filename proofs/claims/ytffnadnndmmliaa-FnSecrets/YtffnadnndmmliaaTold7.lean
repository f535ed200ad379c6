/- The program's terms that are told (chapter 6): how they are told, and how they are put. -/
import Derived.Test.YtffnadnndmmliaaTold6
import Derived.Test.YtffnadnndmmliaaBldOf
import Derived.Test.YtffnadnndmmliaaBldWith
namespace Go.Proofs.Ytffnadnndmmliaa
open Go.RowKit Go.Maps
set_option linter.unusedVariables false
/-- It is told: what it answers lies in memory. -/
def ToldP (L : Nat) (t : Tl) (w : World) (e : Ending) (w' : World) : Prop := ∃ v, e = .returned v ∧ ToldIs L w'.heap.size w' t v ∧ Below w.heap.size w w'
set_option maxHeartbeats 1600000 in
theorem toldAt_any {L : Nat} (p : Int) (w : World) (hL : L ≤ w.heap.size) : Calls Try.prog 115 #[.int .i64 p] w (ToldP L (.pl p) w) := by
  have h0 := heap_alloc_new w (.cells #[.int .i64 p] 3)
  have hb0 : Below w.heap.size w (w.alloc (.cells #[.int .i64 p] 3)) := (Below.refl _ _).alloc (Nat.le_refl _) _
  have HF : Hid (ToldP L (.pl p) w (.returned (.func (.func 161) #[] #[.pointer (some ⟨w.heap.size, 0, none⟩)])) (w.alloc (.cells #[.int .i64 p] 3))) := ⟨_, rfl, toldIs_pl p hL (by simp) h0, hb0⟩
  clear h0 hb0 hL
  go_enter Try.func115, Try.ntmps115
  go_wp2
  go_ret
  exact HF.out
set_option maxHeartbeats 1600000 in
theorem toldAtom_any {L : Nat} (p : Int) (w : World) (hL : L ≤ w.heap.size) : Calls Try.prog 117 #[.int .i64 p] w (ToldP L (.atom p) w) := by
  have h0 := heap_alloc_new w (.cells #[.int .i64 p] 3)
  have hb0 : Below w.heap.size w (w.alloc (.cells #[.int .i64 p] 3)) := (Below.refl _ _).alloc (Nat.le_refl _) _
  have HF : Hid (ToldP L (.atom p) w (.returned (.func (.func 163) #[] #[.pointer (some ⟨w.heap.size, 0, none⟩)])) (w.alloc (.cells #[.int .i64 p] 3))) := ⟨_, rfl, toldIs_atom p hL (by simp) h0, hb0⟩
  clear h0 hb0 hL
  go_enter Try.func117, Try.ntmps117
  go_wp2
  go_ret
  exact HF.out
set_option maxHeartbeats 1600000 in
theorem toldOne_any {L : Nat} (k : Int) (x : Tl) (v : Value) (w : World) (hk : 1 ≤ k ∧ k ≤ 9) (hL : L ≤ w.heap.size) (hx : ToldIs L w.heap.size w x v) : Calls Try.prog 164 #[.int .i64 k, v] w (ToldP L (.one k x) w) := by
  obtain ⟨F, cs, rfl⟩ := hx.fn
  have HF : Hid (ToldP L (.one k x) w (.returned (.func (.func 186) #[] #[.pointer (some ⟨w.heap.size, 0, none⟩), .pointer (some ⟨w.heap.size + 1, 0, none⟩)])) ((w.alloc (.cells #[.int .i64 k] 170)).alloc (.cells #[.func (.func F) #[] cs] 116))) := by
    have hb : Below w.heap.size w ((w.alloc (.cells #[.int .i64 k] 170)).alloc (.cells #[.func (.func F) #[] cs] 116)) := ((Below.refl _ _).alloc (Nat.le_refl _) _).alloc (by simp) _
    have e0 := heap_alloc_new w (.cells #[.int .i64 k] 170)
    have e1 := heap_alloc_new (w.alloc (.cells #[.int .i64 k] 170)) (.cells #[.func (.func F) #[] cs] 116)
    have s1 : (w.alloc (.cells #[.int .i64 k] 170)).heap.size = w.heap.size + 1 := by simp
    have s2 : ((w.alloc (.cells #[.int .i64 k] 170)).alloc (.cells #[.func (.func F) #[] cs] 116)).heap.size = w.heap.size + 1 + 1 := by simp
    rw [s1] at e1
    refine ⟨_, rfl, toldIs_one k x _ hk ⟨by omega, ?_⟩ ⟨by omega, ?_⟩ e1 ?_ (ToldIs.base ?_ x (ToldIs.later hb x hx)), hb⟩
    · rw [s2]; omega
    · rw [s2]; omega
    · exact (heap_alloc_old _ _ (by rw [s1]; omega)).trans e0
    · rw [s2]; omega
  clear hx hL hk
  go_enter Try.func164, Try.ntmps164
  go_wp2
  go_ret
  exact HF.out
set_option maxHeartbeats 1600000 in
theorem toldHash_any {L : Nat} (x : Tl) (v : Value) (w : World) (hL : L ≤ w.heap.size) (hx : ToldIs L w.heap.size w x v) : Calls Try.prog 118 #[v] w (ToldP L (.hash x) w) := by
  have HC : Hid (Calls Try.prog 164 #[.int .i64 3, v] w (ToldP L (.hash x) w)) := toldOne_any 3 x v w (by omega) hL hx
  clear hx hL
  go_enter Try.func118, Try.ntmps118
  go_wp2_with fail
  refine Calls.mono HC.out ?_
  rintro e w2 ⟨v2, rfl, h2, hb2⟩
  have H2 : Hid (ToldP L (.hash x) w (.returned v2) w2) := ⟨_, rfl, h2, hb2⟩
  clear h2 hb2
  go_wp2
  go_ret
  exact H2.out
set_option maxHeartbeats 1600000 in
theorem toldTwo_any {L : Nat} (k : Int) (x y : Tl) (v u : Value) (w : World) (hL : L ≤ w.heap.size) (hx : ToldIs L w.heap.size w x v) (hy : ToldIs L w.heap.size w y u) : Calls Try.prog 162 #[.int .i64 k, v, u] w (ToldP L (.two k x y) w) := by
  obtain ⟨F, cs, rfl⟩ := hx.fn
  obtain ⟨G, ds, rfl⟩ := hy.fn
  have HF : Hid (ToldP L (.two k x y) w (.returned (.func (.func 184) #[] #[.pointer (some ⟨w.heap.size + 1, 0, none⟩), .pointer (some ⟨w.heap.size + 1 + 1, 0, none⟩), .pointer (some ⟨w.heap.size, 0, none⟩)])) (((w.alloc (.cells #[.int .i64 k] 170)).alloc (.cells #[.func (.func F) #[] cs] 116)).alloc (.cells #[.func (.func G) #[] ds] 116))) := by
    have hb : Below w.heap.size w (((w.alloc (.cells #[.int .i64 k] 170)).alloc (.cells #[.func (.func F) #[] cs] 116)).alloc (.cells #[.func (.func G) #[] ds] 116)) := (((Below.refl _ _).alloc (Nat.le_refl _) _).alloc (by simp) _).alloc (by simp; omega) _
    have e0 := heap_alloc_new w (.cells #[.int .i64 k] 170)
    have e1 := heap_alloc_new (w.alloc (.cells #[.int .i64 k] 170)) (.cells #[.func (.func F) #[] cs] 116)
    have e2 := heap_alloc_new ((w.alloc (.cells #[.int .i64 k] 170)).alloc (.cells #[.func (.func F) #[] cs] 116)) (.cells #[.func (.func G) #[] ds] 116)
    have s1 : (w.alloc (.cells #[.int .i64 k] 170)).heap.size = w.heap.size + 1 := by simp
    have s2 : ((w.alloc (.cells #[.int .i64 k] 170)).alloc (.cells #[.func (.func F) #[] cs] 116)).heap.size = w.heap.size + 1 + 1 := by simp
    have s3 : (((w.alloc (.cells #[.int .i64 k] 170)).alloc (.cells #[.func (.func F) #[] cs] 116)).alloc (.cells #[.func (.func G) #[] ds] 116)).heap.size = w.heap.size + 1 + 1 + 1 := by simp
    rw [s1] at e1
    rw [s2] at e2
    refine ⟨_, rfl, toldIs_two k x y _ _ ⟨by omega, ?_⟩ ⟨by omega, ?_⟩ ⟨by omega, ?_⟩ ?_ e2 ?_ (ToldIs.base ?_ x (ToldIs.later hb x hx)) (ToldIs.base ?_ y (ToldIs.later hb y hy)), hb⟩
    · rw [s3]; omega
    · rw [s3]; omega
    · rw [s3]; omega
    · exact (heap_alloc_old _ _ (by rw [s2]; omega)).trans e1
    · exact (heap_alloc_old _ _ (by rw [s2]; omega)).trans ((heap_alloc_old _ _ (by rw [s1]; omega)).trans e0)
    · rw [s3]; omega
    · rw [s3]; omega
  clear hx hy hL
  go_enter Try.func162, Try.ntmps162
  go_wp2
  go_ret
  exact HF.out
set_option maxHeartbeats 1600000 in
theorem toldKdf_any {L : Nat} (x y : Tl) (v u : Value) (w : World) (hL : L ≤ w.heap.size) (hx : ToldIs L w.heap.size w x v) (hy : ToldIs L w.heap.size w y u) : Calls Try.prog 116 #[v, u] w (ToldP L (.two 4 x y) w) := by
  have HC : Hid (Calls Try.prog 162 #[.int .i64 4, v, u] w (ToldP L (.two 4 x y) w)) := toldTwo_any 4 x y v u w hL hx hy
  clear hx hy hL
  go_enter Try.func116, Try.ntmps116
  go_wp2_with fail
  refine Calls.mono HC.out ?_
  rintro e w2 ⟨v2, rfl, h2, hb2⟩
  have H2 : Hid (ToldP L (.two 4 x y) w (.returned v2) w2) := ⟨_, rfl, h2, hb2⟩
  clear h2 hb2
  go_wp2
  go_ret
  exact H2.out
set_option maxHeartbeats 1600000 in
theorem toldList_any {L h : Nat} (xs : List Tl) (vs : List Value) (w : World) (hL : L ≤ w.heap.size) (h1 : L ≤ h ∧ h < w.heap.size) (h5 : w.heap[h]? = some (.cells vs.toArray 116 (0, 0))) (hx : ToldAll L w.heap.size w xs vs) :
    Calls Try.prog 169 #[.slice (some ⟨h, 0, none⟩) vs.length vs.length] w (ToldP L (.list xs) w) := by
  have h0 := heap_alloc_new w (.cells #[.slice (some ⟨h, 0, none⟩) vs.length vs.length] 188)
  have hb0 : Below w.heap.size w (w.alloc (.cells #[.slice (some ⟨h, 0, none⟩) vs.length vs.length] 188)) := (Below.refl _ _).alloc (Nat.le_refl _) _
  have HF : Hid (ToldP L (.list xs) w (.returned (.func (.func 190) #[] #[.pointer (some ⟨w.heap.size, 0, none⟩)])) (w.alloc (.cells #[.slice (some ⟨h, 0, none⟩) vs.length vs.length] 188))) :=
    ⟨_, rfl, toldIs_list xs vs ⟨hL, by simp⟩ ⟨h1.1, by simp; omega⟩ h0 ((hb0.block h h1.2).trans h5) ⟨hx.1, fun m hm => ToldIs.base (by simp) _ (ToldIs.later hb0 _ (hx.2 m hm))⟩, hb0⟩
  clear h0 hb0 hx hL h1 h5
  go_enter Try.func169, Try.ntmps169
  go_wp2
  go_ret
  exact HF.out
/-- How an answer's arena is stored into the result's own cell. -/
theorem fin_arena {w w5 : World} {B : Nat} {a5 : Option Addr} {c5 : Nat} {A : List Nd} (hb : Below w.heap.size w w5) (hR : w5.heap[w.heap.size + 1]? = some (.cells #[.slice none 0 0] 28 (0, 0))) (hB : w.heap.size + 1 < B) (ho : OwnC B w5 (.slice a5 A.length c5) A) :
    w5.cell? ⟨w.heap.size + 1, 0, none⟩ = some (.slice none 0 0) ∧ w5.frozen? ⟨w.heap.size + 1, 0, none⟩ = false ∧ Hid ((w5.setCell ⟨w.heap.size + 1, 0, none⟩ (.slice a5 A.length c5)).heap[w.heap.size + 1]? = some (.cells #[.slice a5 A.length c5] 28 (0, 0)) ∧ OwnC w.heap.size (w5.setCell ⟨w.heap.size + 1, 0, none⟩ (.slice a5 A.length c5)) (.slice a5 A.length c5) A ∧ Below w.heap.size w (w5.setCell ⟨w.heap.size + 1, 0, none⟩ (.slice a5 A.length c5))) := by
  refine ⟨(cell_of_row _ _ 0 _ _ _ hR).trans rfl, frozen_of_row _ _ 0 _ _ hR, (heap_setCell_same _ _ 0 _ _ _ hR).trans rfl, ?_, hb.setCell (show w.heap.size ≤ w.heap.size + 1 by omega) _⟩
  obtain ⟨a6, c6, cp, e, ha6, ho6⟩ := ho
  exact ⟨a6, c6, cp, e, ha6, OwnN.base (ownsRow_setCell_below ho6 (show w.heap.size + 1 < B by omega) _) (by omega)⟩
/-- The two cells with which a function of an arena begins. -/
theorem two_cells (a : Option Addr) (n cap : Nat) (w : World) : ∃ w0, w0 = (w.alloc (.cells #[.slice a n cap] 28)).alloc (.cells #[.slice none 0 0] 28) ∧ Below w.heap.size w w0 ∧ w0.heap.size = w.heap.size + 2 ∧ w0.heap[w.heap.size]? = some (.cells #[.slice a n cap] 28 (0, 0)) ∧ w0.heap[w.heap.size + 1]? = some (.cells #[.slice none 0 0] 28 (0, 0)) := by
  refine ⟨_, rfl, ((Below.refl _ _).alloc (Nat.le_refl _) _).alloc (by simp) _, by simp, (heap_alloc_old _ _ (by simp)).trans (heap_alloc_new w _), ?_⟩
  have := heap_alloc_new (w.alloc (.cells #[.slice a n cap] 28)) (.cells #[.slice none 0 0] 28)
  simpa using this
theorem take_preT {ns ms : List Nd} (h : ns <+: ms) : ms.take ns.length = ns := by
  obtain ⟨r, rfl⟩ := h
  simp
set_option maxHeartbeats 1600000 in
theorem putIn_any {L : Nat} (t : Tl) (v : Value) (a : Option Addr) (cap : Nat) (ns : List Nd) (w : World) (hw : t.Wf) (ht : ToldIs L w.heap.size w t v) (hl : ns.length ≤ 1048576) (hf : ∀ y ∈ ns, y.Fits) (ha : AddrN a cap) (hr : RowN w.heap.size w a ns) :
    Calls Try.prog 112 #[v, .agg #[.slice a ns.length cap]] w fun e w' => ∃ v', e = .returned (.tuple #[.agg #[v'], .int .i64 (if (t.f ns).2 < 0 then -1 else (t.f ns).2)]) ∧ OwnC w.heap.size w' v' (keptA ns (t.f ns).1 (t.f ns).2) ∧ Below w.heap.size w w' := by
  have OT : TlOk t := ht.1 hw
  obtain ⟨K, hK⟩ : ∃ K : Int, (if (t.f ns).2 < 0 then -1 else (t.f ns).2) = K := ⟨_, rfl⟩
  obtain ⟨A, hA⟩ : ∃ A : List Nd, keptA ns (t.f ns).1 (t.f ns).2 = A := ⟨_, rfl⟩
  have HAW : Hid (∀ (B gb gm : Nat) (u : Value) (wz : World), BldAt B gb gm (t.f ns).1.length ns.length (t.f ns).1 u wz → Calls Try.prog 82 #[.pointer (some ⟨gb, 0, none⟩), .int .i64 (t.f ns).2] wz fun e w' => ∃ v', e = .returned (.tuple #[.agg #[v'], .int .i64 K]) ∧ OwnC B w' v' A ∧ Below wz.heap.size wz w') := fun B gb gm u wz hb => by
    by_cases hn : (t.f ns).2 < 0
    · have := aWith_no B gb gm _ ns.length _ u _ wz (OT.le hl) (OT.pre ns).length_le hn hb
      rw [take_preT (OT.pre ns)] at this
      rw [← hK, ← hA, if_pos hn, keptA_neg hn]; exact this
    · have := aWith_yes B gb gm _ ns.length _ u _ wz (OT.le hl) hn hb
      rw [← hK, ← hA, if_neg hn, keptA_pos hn]; exact this
  rw [hK, hA]
  clear hK hA OT
  obtain ⟨F, cs, rfl⟩ := ht.fn
  have eg : ∀ args w, (callFunc F args).run Try.prog w = .ok (.enter F args) w := ht.eg
  obtain ⟨w0, he, hb0, hs0, hA0, hr0⟩ := two_cells a ns.length cap w
  have c0 : w0.cell? ⟨w.heap.size, 0, none⟩ = some (.slice a ns.length cap) := (cell_of_row _ _ 0 _ _ _ hA0).trans rfl
  have HBO : Hid _ := builderOf_any a cap ns w0 hl hf ha (hr.grown hb0)
  have HT : Hid (ToldIs L w0.heap.size w0 t (.func (.func F) #[] cs)) := ToldIs.base (by omega) t (ToldIs.later hb0 t ht)
  have HB0 : Hid (Below w.heap.size w w0) := hb0
  have HR0 : Hid (w0.heap[w.heap.size + 1]? = some (.cells #[.slice none 0 0] 28 (0, 0))) := hr0
  clear hf ha hr ht hb0 hr0 hA0
  rw [he] at c0
  go_enter Try.func112, Try.ntmps112
  go_wp2_with fail
  rw [← he] at c0 ⊢
  clear he
  refine Calls.mono HBO.out ?_
  rintro e w1 ⟨gb, gm, u, rfl, hbld, hb1⟩
  have HC : Hid (Calls Try.prog F (#[.pointer (some ⟨gb, 0, none⟩)] ++ cs) w1 (TlPost 3000 w0.heap.size gb gm ns.length (t.f ns) u w1)) := HT.out.call hw w1 _ gb gm ns.length ns u (fun k _ hk => hb1.block k hk) (Nat.le_refl _) hl hbld
  have HB1 : Hid (Below w0.heap.size w0 w1) := hb1
  clear hbld hb1 c0 HBO HT
  go_wp2_with fail
  refine Calls.mono HC.out ?_
  rintro e w2 ⟨rfl, u2, hbl2, -, hb2⟩
  have HC2 : Hid _ := HAW.out _ gb gm u2 w2 hbl2
  have hsz2 := hbl2.size
  have HB2 : Hid (Below w0.heap.size w0 w2) := HB1.out.trans hb2
  clear hbl2 hb2 HC HB1 HAW eg
  go_wp2_with fail
  refine Calls.mono HC2.out ?_
  rintro e w5 ⟨v5, rfl, ho5, hb5⟩
  obtain ⟨a5, c5, rfl, -, -⟩ := ho5.row
  have hb6 : Below w0.heap.size w0 w5 := HB2.out.trans (hb5.mono hsz2)
  obtain ⟨r0, f0, HE⟩ := fin_arena (HB0.out.trans (hb6.mono (by omega))) ((hb6.block _ (by omega)).trans HR0.out) (by omega) ho5
  clear ho5 hb5 HC2 hb6
  go_wp2
  refine bodyPost_ret (res_cell2 rfl _ _ (w.heap.size + 1) 28 #[.slice a5 A.length c5] (0, 0) _ rfl ?_ Try.underlying28 rfl arenaSize) rfl ?_
  · exact HE.out.1
  · exact ⟨_, rfl, HE.out.2.1, HE.out.2.2⟩
/-- A region that makes memory and at its end stores its answer into the cell r: what an operation may do. -/
def RgR (r s i : Nat) (w' w'' : World) : Prop := if i = s then ∃ u, w'' = w'.setCell ⟨r, 0, none⟩ u else Below w'.heap.size w' w''
theorem RgR.size {r s i : Nat} {w' w'' : World} (h : RgR r s i w' w'') : w'.heap.size ≤ w''.heap.size := by
  unfold RgR at h
  split at h
  · obtain ⟨u, rfl⟩ := h; simp
  · exact h.size
theorem RgR.below {r s i B : Nat} {w' w'' : World} (h : RgR r s i w' w'') (hB : B ≤ r) (hr : r < w'.heap.size) : Below B w' w'' := by
  unfold RgR at h
  split at h
  · obtain ⟨u, rfl⟩ := h; exact (Below.refl _ _).setCell hB _
  · exact h.mono (by omega)
theorem RgR.told {r s i L : Nat} {w' w'' : World} (h : RgR r s i w' w'') (hr : r < L) (t : Tl) {v : Value} (ht : ToldIs L w'.heap.size w' t v) : ToldIs L w''.heap.size w'' t v := by
  refine ToldIs.base h.size t (ToldIs.kept (fun k hk hk2 => ?_) t ht)
  unfold RgR at h
  split at h
  · obtain ⟨u, rfl⟩ := h
    exact heap_setCell_other w' ⟨r, 0, none⟩ k u (show k ≠ r by omega)
  · exact h.block k hk2
theorem RgR.own {r s i L : Nat} {w' w'' : World} (h : RgR r s i w' w'') (hr : r < L) {v : Value} {A : List Nd} (ho : OwnC L w' v A) : OwnC L w'' v A := by
  unfold RgR at h
  split at h
  · obtain ⟨u, rfl⟩ := h
    obtain ⟨a6, c6, cp, e, ha6, ho6⟩ := ho
    exact ⟨a6, c6, cp, e, ha6, ownsRow_setCell_below ho6 (show r < L by omega) _⟩
  · exact ho.later h
/-- What holds throughout. -/
structure RgI (w : World) (a : Option Addr) (n cap : Nat) (ts : List (Tl × Value)) (w' : World) : Prop where
  below : Below w.heap.size w w'
  box : w'.heap[w.heap.size]? = some (.cells #[.slice a n cap] 28 (0, 0))
  res : ∃ u, w'.heap[w.heap.size + 1]? = some (.cells #[u] 28 (0, 0))
  size : w.heap.size + 2 ≤ w'.heap.size
  told : ∀ p ∈ ts, ToldIs (w.heap.size + 2) w'.heap.size w' p.1 p.2
theorem RgI.next {w w' w'' : World} {a : Option Addr} {n cap s i : Nat} {ts : List (Tl × Value)} (hR : RgR (w.heap.size + 1) s i w' w'') (h : RgI w a n cap ts w') : RgI w a n cap ts w'' := by
  have h1 := hR.below (B := w.heap.size + 1) (Nat.le_refl _) (by have := h.size; omega)
  have h2 := hR.size
  have h3 := h.size
  refine ⟨h.below.trans (h1.mono (by omega)), (h1.block _ (by omega)).trans h.box, ?_, by omega, fun p hp => hR.told (by omega) p.1 (h.told p hp)⟩
  obtain ⟨u0, hu0⟩ := h.res
  unfold RgR at hR
  split at hR
  · obtain ⟨u, rfl⟩ := hR
    exact ⟨u, (heap_setCell_same w' _ 0 _ _ _ hu0).trans rfl⟩
  · exact ⟨u0, (hR.block _ (by omega)).trans hu0⟩
theorem RgI.drew {w w' : World} {a : Option Addr} {n cap : Nat} {ts : List (Tl × Value)} (h : RgI w a n cap ts w') : RgI w a n cap ts w'.drew := ⟨h.below.drew, h.box, h.res, h.size, fun p hp => (show ToldIs _ w'.heap.size w'.drew p.1 p.2 from ToldIs.kept (w := w') (w' := w'.drew) (fun _ _ _ => rfl) p.1 (h.told p hp))⟩
end Go.Proofs.Ytffnadnndmmliaa
