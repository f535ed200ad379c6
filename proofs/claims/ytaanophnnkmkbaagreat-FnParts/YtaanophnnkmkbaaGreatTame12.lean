/- In a tame arena (each node's parts lie within it) a term stands where a put of it would lay it, or it stands nowhere. -/
import Derived.Test.YtaanophnnkmkbaaGreatTold8
import Derived.Test.YtaanophnnkmkbaaGreatMakeParts
import Derived.Test.YtaanophnnkmkbaaGreatCert10
import Derived.Deep.QuietTactic
import Derived.BigRegion
import Derived.Test.YtaanophnnkmkbaaGreatImplPt12
import Derived.Test.YtaanophnnkmkbaaGreatHin11
import Derived.Test.YtaanophnnkmkbaaGreatImplPl12
import Derived.Test.YtaanophnnkmkbaaGreatLookPart12
namespace Go.Proofs.YtaanophnnkmkbaaGreat
open Go.RowKit Go.Maps
set_option linter.unusedVariables false
def Tame (ns : List Nd) : Prop := ∀ y ∈ ns, y.a < (ns.length : Int) ∧ y.b < (ns.length : Int)
/-- What is looked for (l) and where it is put (p). -/
def Rl (n : Nat) (l p : Int) : Prop := (0 ≤ l → p = l) ∧ (0 ≤ p → p < (n : Int) → l = p)
theorem findN_mem {ns : List Nd} {x : Nd} {k : Nat} (h : ns[k]? = some x) : findN ns x ≠ -1 := by
  intro e
  obtain ⟨hk, e2⟩ := List.getElem?_eq_some_iff.1 h
  refine findN_none e k hk ?_
  rw [List.getD_eq_getElem?_getD, h]; rfl
theorem findN_pre {ns M : List Nd} {x : Nd} (hp : ns <+: M) (h : findN ns x ≠ -1) : findN M x = findN ns x := by
  obtain ⟨t, rfl⟩ := hp
  have := findFrom_append x ns t 0
  have h2 := findN_range ns x
  unfold findN at *
  rw [this, if_pos (by omega)]
theorem nodeB_up {x : Nd} {k k' : Int} (h : nodeB x k = true) (hk : k ≤ k') : nodeB x k' = true := by
  unfold nodeB inB at *
  revert h
  repeat' split
  all_goals simp_all
  all_goals omega
theorem nodeB_down {x : Nd} {k k' : Int} (h : nodeB x k' = true) (ha : x.a < k) (hb : x.b < k) : nodeB x k = true := by
  unfold nodeB inB at *
  revert h
  repeat' split
  all_goals simp_all
  all_goals omega
theorem nodeB_kids {x : Nd} {k : Int} (h : nodeB x k = true) : 0 ≤ x.a ∧ 0 ≤ x.b := by
  unfold nodeB inB at h
  revert h
  repeat' split
  all_goals simp_all
  all_goals omega
theorem putKm_look {ns M : List Nd} {x y : Nd} (ht : Tame ns) (hp : ns <+: M) (hk : x.k = y.k) (hn : x.n = y.n) (ha : Rl ns.length x.a y.a) (hb : Rl ns.length x.b y.b) : Rl ns.length (putKm ns.length ns x) (putK M y) := by
  have hlen := hp.length_le
  constructor
  · intro h
    unfold putKm at h ⊢
    split at h
    next h1 =>
      rw [if_pos h1]
      rw [if_neg (by omega)] at h ⊢
      have h0 := nodeB_kids h1
      have ea : y.a = x.a := ha.1 h0.1
      have eb : y.b = x.b := hb.1 h0.2
      have e : y = x := by cases x; cases y; simp_all
      subst e
      have h2 := findN_pre hp (x := y) (by omega)
      have h3 := findN_range ns y
      unfold putK
      rw [if_pos (nodeB_up h1 (by omega)), if_neg (by omega)]
      omega
    next => omega
  · intro h h'
    unfold putK at h h'
    split at h
    next h1 =>
      rw [if_pos h1] at h'
      split at h
      next h2 => rw [if_pos h2] at h'; omega
      next h2 =>
        rw [if_neg h2] at h'
        obtain ⟨j, hj⟩ := Int.eq_ofNat_of_zero_le h
        have h3 := findN_at hj
        have h4 : ns[j]? = some y := by
          obtain ⟨t, rfl⟩ := hp
          rwa [List.getElem?_append_left (by omega)] at h3
        have h5 := findN_mem h4
        have h6 := findN_pre hp h5
        have h7 := ht y (List.mem_of_getElem? h4)
        have h0 := nodeB_kids h1
        have ea : x.a = y.a := ha.2 h0.1 h7.1
        have eb : x.b = y.b := hb.2 h0.2 h7.2
        have e : x = y := by cases x; cases y; simp_all
        subst e
        have h8 := nodeB_down h1 h7.1 h7.2
        unfold putKm putK
        rw [if_pos h8, if_neg (by omega), if_pos h1, if_neg h2, h6]
    next => omega
theorem Rl.refl (n : Nat) (z : Int) : Rl n z z := ⟨fun _ => rfl, fun _ _ => rfl⟩
/-- A term that is looked for as it is put. -/
structure Tl.Agree (t : Tl) : Prop where
  still : t.Still
  pre : ∀ M : List Nd, M <+: (t.f M).1
  rl : ∀ ns M : List Nd, Tame ns → ns <+: M → Rl ns.length (t.look ns) (t.f M).2
theorem Tl.Agree.pl (p : Int) : (Tl.pl p).Agree := ⟨Tl.Still.pl p, fun M => List.prefix_refl _, fun ns M _ _ => Rl.refl _ _⟩
theorem Tl.Agree.atom (n : Int) : (Tl.atom n).Agree := ⟨Tl.Still.atom n, fun M => putAm_pre _ _ _, fun ns M ht hp => putKm_look ht hp rfl rfl (Rl.refl _ _) (Rl.refl _ _)⟩
theorem mkNd_rl {n : Nat} {k a b a' b' : Int} (hb : Rl n b b') : Rl n (mkNd k a b).b (mkNd k a' b').b := by
  unfold mkNd; simp only; split
  · exact Rl.refl _ _
  · exact hb
theorem Tl.Agree.one {k : Int} {x : Tl} (h : x.Agree) : (Tl.one k x).Agree := by
  refine ⟨h.still.one, fun M => (h.pre M).trans (putAm_pre _ _ _), fun ns M ht hp => ?_⟩
  show Rl ns.length (putKm ns.length (x.g ns.length ns).1 (mkNd k (x.look ns) 0)) (putKm 3000 (x.f M).1 (mkNd k (x.f M).2 0))
  rw [h.still ns]
  exact putKm_look ht (hp.trans (h.pre M)) rfl rfl (h.rl ns M ht hp) (mkNd_rl (Rl.refl _ _))
theorem Tl.Agree.hash {x : Tl} (h : x.Agree) : (Tl.hash x).Agree := Tl.Agree.one (k := 3) h
theorem Tl.Agree.two {k : Int} {x y : Tl} (h : x.Agree) (h' : y.Agree) : (Tl.two k x y).Agree := by
  refine ⟨h.still.two h'.still, fun M => ((h.pre M).trans (h'.pre _)).trans (putAm_pre _ _ _), fun ns M ht hp => ?_⟩
  show Rl ns.length (putKm ns.length (y.g ns.length (x.g ns.length ns).1).1 (mkNd k (x.look ns) (y.g ns.length (x.g ns.length ns).1).2)) (putKm 3000 (y.f (x.f M).1).1 (mkNd k (x.f M).2 (y.f (x.f M).1).2))
  rw [h.still ns, h'.still ns]
  exact putKm_look ht ((hp.trans (h.pre M)).trans (h'.pre _)) rfl rfl (h.rl ns M ht hp) (mkNd_rl (h'.rl ns _ ht (hp.trans (h.pre M))))
theorem Tl.fspre' : ∀ (xs : List Tl) (M : List Nd), (∀ x ∈ xs, x.Agree) → M <+: (Tl.gs 3000 xs M).1
  | [], M, _ => List.prefix_refl _
  | x :: xs, M, h => by
    rw [Tl.gs_cons]
    exact ((h x (List.mem_cons_self ..)).pre M).trans (Tl.fspre' xs _ fun y hy => h y (List.mem_cons_of_mem _ hy))
inductive Rls (n : Nat) : List Int → List Int → Prop
  | nil : Rls n [] []
  | cons {x y : Int} {xs ys : List Int} (h : Rl n x y) (t : Rls n xs ys) : Rls n (x :: xs) (y :: ys)
theorem Tl.fs_agree : ∀ (xs : List Tl) (ns M : List Nd), (∀ x ∈ xs, x.Agree) → Tame ns → ns <+: M → Rls ns.length (Tl.gs ns.length xs ns).2 (Tl.gs 3000 xs M).2 ∧ M <+: (Tl.gs 3000 xs M).1
  | [], ns, M, _, _, _ => ⟨Rls.nil, List.prefix_refl _⟩
  | x :: xs, ns, M, h, ht, hp => by
    have hx := h x (List.mem_cons_self ..)
    have hr := Tl.fs_agree xs ns (x.f M).1 (fun y hy => h y (List.mem_cons_of_mem _ hy)) ht (hp.trans (hx.pre M))
    rw [Tl.gs_cons, Tl.gs_cons, hx.still ns]
    exact ⟨Rls.cons (hx.rl ns M ht hp) hr.1, (hx.pre M).trans hr.2⟩
theorem listFm_agree {ns : List Nd} (ht : Tame ns) : ∀ {xs ys : List Int} {M : List Nd}, Rls ns.length xs ys → ns <+: M → Rl ns.length (listFm ns.length xs ns).2 (listFm 3000 ys M).2 := by
  intro xs ys M h hp
  induction h with
  | nil => exact putKm_look (x := ⟨1, 0, 0, 0⟩) (y := ⟨1, 0, 0, 0⟩) ht hp rfl rfl (Rl.refl _ _) (Rl.refl _ _)
  | @cons x y xs ys h t ih =>
    rw [listFm_cons, listFm_cons]
    simp only
    rw [listFm_still ns xs]
    exact putKm_look ht (hp.trans (listFm_pre _ _ _)) rfl rfl h ih
theorem Tl.Agree.list {xs : List Tl} (h : ∀ x ∈ xs, x.Agree) : (Tl.list xs).Agree := by
  refine ⟨Tl.Still.list fun x hx => (h x hx).still, fun M => ?_, fun ns M ht hp => ?_⟩
  · show M <+: (listFm 3000 (Tl.gs 3000 xs M).2 (Tl.gs 3000 xs M).1).1
    exact (Tl.fspre' xs M h).trans (listFm_pre _ _ _)
  · have hr := Tl.fs_agree xs ns M h ht hp
    show Rl ns.length ((Tl.list xs).g ns.length ns).2 (listFm 3000 (Tl.gs 3000 xs M).2 (Tl.gs 3000 xs M).1).2
    rw [Tl.g_list, Tl.gs_still xs ns fun x hx => (h x hx).still]
    exact listFm_agree ht hr.1 (hp.trans hr.2)
end Go.Proofs.YtaanophnnkmkbaaGreat

namespace Go.Proofs.YtaanophnnkmkbaaGreat
open Go.RowKit Go.Maps
set_option linter.unusedVariables false
def InA (ns : List Nd) (k : Int) : Prop := 0 ≤ k ∧ k < (ns.length : Int)
theorem ndAt_ext {ns A : List Nd} (hp : ns <+: A) {k : Int} (hk : InA ns k) : ndAt A k = ndAt ns k := by
  obtain ⟨t, rfl⟩ := hp
  unfold ndAt
  have := hk.1; have := hk.2
  rw [List.getD_eq_getElem?_getD, List.getD_eq_getElem?_getD, List.getElem?_append_left (by omega)]
theorem okAt_ext {ns A : List Nd} (hp : ns <+: A) {k : Int} (hk : InA ns k) : okAt A k = okAt ns k := by
  have h := ndAt_ext hp hk
  have hl := hp.length_le
  unfold ndAt at h
  unfold okAt
  rw [h]
  have e : inB k 0 ((A.length : Int) - 1) = inB k 0 ((ns.length : Int) - 1) := by
    unfold inB
    have := hk.1; have := hk.2
    rw [decide_eq_true (show k ≤ (A.length : Int) - 1 by omega), decide_eq_true (show k ≤ (ns.length : Int) - 1 by omega)]
  rw [e]
theorem isK_ext {ns A : List Nd} (hp : ns <+: A) {k : Int} (hk : InA ns k) (c : Int) : isK A k c = isK ns k c := by
  unfold isK
  rw [okAt_ext hp hk, ndAt_ext hp hk]
theorem isK_inA {ns : List Nd} {k c : Int} (h : isK ns k c = true) : InA ns k := by
  obtain ⟨i, rfl, hi⟩ := okAt_in (isK_ok h).1
  exact ⟨by omega, by omega⟩
theorem isK_part {ns : List Nd} {k c : Int} (h : isK ns k c = true) (hc : c ≠ 1) : InA ns (ndAt ns k).a ∧ (oneK c = false → InA ns (ndAt ns k).b) := by
  have hi := isK_inA h
  obtain ⟨h1, h2⟩ := isK_ok h
  have h3 : nodeB (ndAt ns k) k = true := by
    have h4 : okAt ns k = true := h1
    unfold okAt at h4
    exact (Bool.and_eq_true .. ▸ h4 : _ ∧ _).2
  have := hi.1; have := hi.2
  rcases nodeB_true h3 with q | q | q
  · exact absurd (h2.symm.trans q.1) hc
  · refine ⟨⟨q.2.2.2.1, by omega⟩, fun e => ?_⟩
    rw [h2, e] at q
    simp at q
  · exact ⟨⟨q.2.2.2.1, by omega⟩, fun _ => ⟨q.2.2.2.2.2.2.1, by omega⟩⟩
theorem partsN_ext {ns A : List Nd} (hp : ns <+: A) : ∀ (m : Nat) {k : Int}, InA ns k → partsN A m k = partsN ns m k
  | 0, k, hk => by unfold partsN; rw [isK_ext hp hk, ndAt_ext hp hk]
  | m + 1, k, hk => by
    unfold partsN
    rw [isK_ext hp hk, ndAt_ext hp hk]
    split
    next h => rw [partsN_ext hp m ((isK_part h (by decide)).2 rfl)]
    next => rfl
theorem partsN_in {ns : List Nd} : ∀ (m : Nat) {k : Int} {l : List Int}, partsN ns m k = some l → ∀ z ∈ l, InA ns z
  | 0, k, l, h, z, hz => by
    unfold partsN at h; split at h
    · cases h; cases hz
    · cases h
  | m + 1, k, l, h, z, hz => by
    unfold partsN at h
    split at h
    next h1 =>
      cases h2 : partsN ns m (ndAt ns k).b with
      | none => rw [h2] at h; cases h
      | some l' =>
        rw [h2] at h; cases h
        rcases List.mem_cons.1 hz with rfl | hz
        · exact (isK_part h1 (by decide)).1
        · exact partsN_in m h2 z hz
    next => cases h
theorem numV_ext {ns A : List Nd} (hp : ns <+: A) {k : Int} (hk : InA ns k) : numV A k = numV ns k := by
  unfold numV; rw [isK_ext hp hk, ndAt_ext hp hk]
theorem numIs_ext {ns A : List Nd} (hp : ns <+: A) {k : Int} (hk : InA ns k) (n : Int) : numIs A k n = numIs ns k n := by
  unfold numIs; rw [isK_ext hp hk, numV_ext hp hk]
theorem partsB_ext {ns A : List Nd} (hp : ns <+: A) {k : Int} (hk : InA ns k) (n : Int) : partsB A k n = partsB ns k n := by
  unfold partsB partsR; split; rfl; rw [partsN_ext hp _ hk]
theorem partsV_ext {ns A : List Nd} (hp : ns <+: A) {k : Int} (hk : InA ns k) (n : Int) : partsV A k n = partsV ns k n := by
  unfold partsV partsR; split; rfl; rw [partsN_ext hp _ hk]
theorem partsN_lenX {ns : List Nd} : ∀ (m : Nat) {k : Int} {l : List Int}, partsN ns m k = some l → l.length = m
  | 0, k, l, h => by
    unfold partsN at h; split at h
    · cases h; rfl
    · cases h
  | m + 1, k, l, h => by
    unfold partsN at h
    split at h
    next h1 =>
      cases h2 : partsN ns m (ndAt ns k).b with
      | none => rw [h2] at h; cases h
      | some l' => rw [h2] at h; cases h; simp [partsN_lenX m h2]
    next => cases h
theorem partsV_in {ns : List Nd} {k n : Int} (h : partsB ns k n = true) (i : Nat) (hi : (i : Int) < n) : InA ns ((partsV ns k n).getD i 0) := by
  unfold partsB at h
  unfold partsV
  cases h2 : partsR ns k n with
  | none => rw [h2] at h; cases h
  | some l =>
    unfold partsR at h2
    split at h2
    next => cases h2
    next h3 =>
      have hl := partsN_lenX _ h2
      have hi2 : i < l.length := by omega
      refine partsN_in _ h2 _ ?_
      show l.getD i 0 ∈ l
      rw [List.getD_eq_getElem?_getD, List.getElem?_eq_getElem hi2]
      exact List.getElem_mem hi2
theorem p3_ext {ns A : List Nd} (hp : ns <+: A) {k : Int} (hk : InA ns k) (i : Nat) : p3 A k i = p3 ns k i := by
  unfold p3; rw [partsV_ext hp hk]
theorem partsB_inA {ns : List Nd} {k n : Int} (h : partsB ns k n = true) : InA ns k := by
  unfold partsB at h
  cases h2 : partsR ns k n with
  | none => rw [h2] at h; cases h
  | some l =>
    unfold partsR at h2
    split at h2
    next => cases h2
    next h3 =>
      generalize n.toNat = m at h2
      cases m with
      | zero => unfold partsN at h2; split at h2; next q => exact isK_inA q.1
                next => cases h2
      | succ m => unfold partsN at h2; split at h2; next q => exact isK_inA q
                  next => cases h2
/-- A seal that opens: by a key that is looked for, or put. -/
theorem openB_look {ns : List Nd} {l p : Int} (h : Rl ns.length l p) (k : Int) : openB ns l k = openB ns p k := by
  unfold openB
  cases hk : isK ns k 5 with
  | false => rfl
  | true =>
    have hi := (isK_part hk (by decide)).1
    have e : ((ndAt ns k).a = l) ↔ ((ndAt ns k).a = p) := by
      have := hi.1; have := hi.2
      refine ⟨fun e => ?_, fun e => ?_⟩
      · have := h.1 (by omega); omega
      · have := h.2 (by omega) (by omega); omega
    simp [e]
theorem openV_look {ns : List Nd} {l p : Int} (h : Rl ns.length l p) (k : Int) : openV ns l k = openV ns p k := by
  unfold openV; rw [openB_look h]
theorem openV_inA {ns : List Nd} {q k : Int} (h : openB ns q k = true) : InA ns (openV ns q k) := by
  unfold openV; rw [if_pos h]
  unfold openB at h
  exact (isK_part (Bool.and_eq_true .. ▸ h : _ ∧ _).1 (by decide)).2 rfl
end Go.Proofs.YtaanophnnkmkbaaGreat

namespace Go.Proofs.YtaanophnnkmkbaaGreat
open Go.RowKit Go.Maps
set_option linter.unusedVariables false
def lkC (ns : List Nd) (hd : Int) : Int := (Tl.two 4 (.pl hd) (.atom 40)).look ns
def lkH (ns : List Nd) (sa : Int) : Int := (Tl.hash (.pl sa)).look ns
def alW (ns : List Nd) (hd k : Int) : Int := openV ns (lkC ns hd) k
def alP (ns : List Nd) (hd k : Int) : List Int := partsV ns (alW ns hd k) 2
def alB (ns : List Nd) (hd k : Int) : Bool := partsB ns (alW ns hd k) 2
def alQ (ns : List Nd) (hd sa k : Int) : Bool := alB ns hd k && decide ((alP ns hd k).getD 1 0 = lkH ns sa)
def alV (ns : List Nd) (hd sa k : Int) : Int := if alQ ns hd sa k = true then numV ns ((alP ns hd k).getD 0 0) else 0
def alR (ns : List Nd) (hd sa k : Int) : Bool := alQ ns hd sa k && isK ns ((alP ns hd k).getD 0 0) 1
theorem wf40A : (Lit.int .i64 40).wf = true := by decide
theorem parts2L {ns : List Nd} {k : Int} (h : partsB ns k 2 = true) : (partsV ns k 2).length = 2 := by
  unfold partsB at h
  unfold partsV
  cases hp : partsR ns k 2 with
  | none => rw [hp] at h; simp at h
  | some xs =>
    unfold partsR at hp
    rw [if_neg (by omega)] at hp
    exact (partsN_len ns 2 k xs hp).1
set_option maxHeartbeats 3200000 in
set_option maxRecDepth 20000 in
theorem implAckInL_any (a : Option Addr) (cap : Nat) (ns : List Nd) (hd sa k : Int) (w : World) (hl : ns.length ≤ 1048576) (hf : ∀ y ∈ ns, y.Fits) (h1 : (Lit.int .i64 hd).wf = true) (h2 : (Lit.int .i64 sa).wf = true) (ha : AddrN a cap) (hr : RowN w.heap.size w a ns) :
    Calls Tryz.prog 10 #[.agg #[.slice a ns.length cap], .int .i64 hd, .int .i64 sa, .int .i64 k] w fun e w' => e = .returned (.tuple #[.int .i64 (alV ns hd sa k), .bool (alR ns hd sa k)]) ∧ Below w.heap.size w w' := by
  have hb0 : Below w.heap.size w (w.alloc (.cells #[.slice a ns.length cap] 26)) := (Below.refl _ _).alloc (Nat.le_refl _) _
  have hA0 := heap_alloc_new w (.cells #[.slice a ns.length cap] 26)
  have c0 : (w.alloc (.cells #[.slice a ns.length cap] 26)).cell? ⟨w.heap.size, 0, none⟩ = some (.slice a ns.length cap) := (cell_of_row _ _ 0 _ _ _ hA0).trans rfl
  have hs0 : (w.alloc (.cells #[.slice a ns.length cap] 26)).heap.size = w.heap.size + 1 := by simp
  have HC : Hid _ := finderOf_any a cap ns _ hl hf ha (hr.grown hb0)
  have HR : Hid (RowN w.heap.size w a ns) := hr
  have HW : Hid ((Lit.int .i64 hd).wf = true ∧ (Lit.int .i64 sa).wf = true) := ⟨h1, h2⟩
  obtain ⟨q1, HQ1⟩ : ∃ q, Hid (lkC ns hd = q) := ⟨_, rfl⟩
  obtain ⟨q2, HQ2⟩ : ∃ q, Hid (lkH ns sa = q) := ⟨_, rfl⟩
  clear hr hf ha h1 h2
  go_enter Tryz.func10, Tryz.ntmps10
  go_wp2_with fail
  generalize w.alloc (.cells #[.slice a ns.length cap] 26) = w0 at hb0 hA0 c0 hs0 HC ⊢
  refine Calls.mono HC.out ?_
  rintro e w1 ⟨gb, gm, v, rfl, hbld, hb1⟩
  have HB1 : Hid (BldM ns.length w0.heap.size gb gm ns.length ns.length ns v w1 ∧ Below w0.heap.size w0 w1) := ⟨hbld, hb1⟩
  clear hbld hb1 HC c0
  go_wp2_with fail
  refine Calls.mono (toldAckKey_any (L := w1.heap.size) hd w1 (Nat.le_refl _)) ?_
  rintro e w2 ⟨v2, rfl, t2, b2⟩
  obtain ⟨F2, c2, rfl⟩ := t2.fn
  have eg2 := t2.eg
  have HX : Hid (Calls Tryz.prog F2 (#[.pointer (some ⟨gb, 0, none⟩)] ++ c2) w2 fun e w' => e = .returned (.int .i64 q1) ∧ (∃ u', BldM ns.length w0.heap.size gb gm ns.length ns.length ns u' w') ∧ Below w0.heap.size w0 w') := by
    have := ToldIs.findA t2 ⟨by omega, by omega, HW.out.1, wf40A⟩ (Tl.Still.two (Tl.Still.pl _) (Tl.Still.atom _)) hl (HB1.out.1.later b2) HB1.out.1.lts
    rw [show (Tl.two 4 (.pl hd) (.atom 40)).look ns = q1 from HQ1.out] at this
    exact this.mono fun e w' ⟨p1, p2, p3⟩ => ⟨p1, p2, (HB1.out.2.trans (b2.mono HB1.out.1.size)).trans p3⟩
  clear t2 b2 HB1
  go_wp2_with fail
  refine Calls.mono HX.out ?_
  rintro e w3 ⟨rfl, ⟨u3, hbl3⟩, hb3⟩
  have HB3 : Hid (BldM ns.length w0.heap.size gb gm ns.length ns.length ns u3 w3 ∧ Below w0.heap.size w0 w3) := ⟨hbl3, hb3⟩
  clear hbl3 hb3 HX eg2
  go_wp2_with fail
  refine Calls.mono (toldAt_any (L := w3.heap.size) sa w3 (Nat.le_refl _)) ?_
  rintro e w4 ⟨v4, rfl, t4, b4⟩
  obtain ⟨F4, c4, rfl⟩ := t4.fn
  have T4 : Hid (ToldIs w3.heap.size w4.heap.size w4 (.pl sa) (.func (.func F4) #[] c4) ∧ Below w3.heap.size w3 w4) := ⟨t4, b4⟩
  clear t4 b4
  go_wp2_with fail
  refine Calls.mono (toldHash_any (L := w3.heap.size) _ _ w4 T4.out.2.size T4.out.1) ?_
  rintro e w5 ⟨v5, rfl, t5, b5⟩
  obtain ⟨F5, c5, rfl⟩ := t5.fn
  have eg5 := t5.eg
  have hb35 : Below w3.heap.size w3 w5 := T4.out.2.trans (b5.mono T4.out.2.size)
  have HX : Hid (Calls Tryz.prog F5 (#[.pointer (some ⟨gb, 0, none⟩)] ++ c5) w5 fun e w' => e = .returned (.int .i64 q2) ∧ Below w0.heap.size w0 w') := by
    have := ToldIs.findA t5 HW.out.2 (Tl.Still.hash (Tl.Still.pl _)) hl (HB3.out.1.later hb35) HB3.out.1.lts
    rw [show (Tl.hash (.pl sa)).look ns = q2 from HQ2.out] at this
    exact this.mono fun e w' ⟨p1, p2, p3⟩ => ⟨p1, (HB3.out.2.trans (hb35.mono HB3.out.1.size)).trans p3⟩
  clear t5 b5 hb35 HB3 T4
  go_wp2_with fail
  refine Calls.mono HX.out ?_
  rintro e w6 ⟨rfl, hb6⟩
  have hA6 := (hb6.block w.heap.size (by omega)).trans hA0
  have c6 : w6.cell? ⟨w.heap.size, 0, none⟩ = some (.slice a ns.length cap) := (cell_of_row _ _ 0 _ _ _ hA6).trans rfl
  have HB6 : Hid (Below w.heap.size w w6 ∧ w.heap.size < w6.heap.size ∧ w6.heap[w.heap.size]? = some (.cells #[.slice a ns.length cap] 26 (0, 0))) := ⟨hb0.trans (hb6.mono (by omega)), by have := hb6.size; omega, hA6⟩
  clear hb6 hA6 HX eg5 hb0 hA0 hs0
  go_wp2_with fail
  have HOP : Hid _ := implOpen_any a cap ns q1 k w6 hl (HR.out.grown HB6.out.1)
  obtain ⟨iw, HIW⟩ : ∃ q, Hid (openV ns q1 k = q) := ⟨_, rfl⟩
  rw [HIW.out] at HOP
  refine Calls.mono HOP.out ?_
  rintro e w7 ⟨rfl, hb7⟩
  have HB7 : Hid (Below w.heap.size w w7 ∧ w.heap.size < w7.heap.size ∧ w7.heap[w.heap.size]? = some (.cells #[.slice a ns.length cap] 26 (0, 0))) := ⟨HB6.out.1.trans (hb7.mono HB6.out.1.size), by have := hb7.size; have := HB6.out.2.1; omega, (hb7.block _ HB6.out.2.1).trans HB6.out.2.2⟩
  have c7 : w7.cell? ⟨w.heap.size, 0, none⟩ = some (.slice a ns.length cap) := (cell_of_row _ _ 0 _ _ _ HB7.out.2.2).trans rfl
  clear hb7 HB6 HOP c6
  go_wp2_with fail
  have HPA : Hid _ := implParts_any a cap ns iw 2 w7 hl (HR.out.grown HB7.out.1)
  have HV : Hid (alB ns hd k = partsB ns iw 2 ∧ alP ns hd k = partsV ns iw 2) := by
    unfold alB alP alW; rw [HQ1.out, HIW.out]; exact ⟨rfl, rfl⟩
  refine Calls.mono HPA.out ?_
  rintro e w8 ⟨v8, rfl, ho8, hb8⟩
  have HB8 : Hid (Below w.heap.size w w8 ∧ w.heap.size < w8.heap.size ∧ w8.heap[w.heap.size]? = some (.cells #[.slice a ns.length cap] 26 (0, 0))) := ⟨HB7.out.1.trans (hb8.mono HB7.out.1.size), by have := hb8.size; have := HB7.out.2.1; omega, (hb8.block _ HB7.out.2.1).trans HB7.out.2.2⟩
  have c8 : w8.cell? ⟨w.heap.size, 0, none⟩ = some (.slice a ns.length cap) := (cell_of_row _ _ 0 _ _ _ HB8.out.2.2).trans rfl
  clear hb8 HB7 HPA c7
  obtain ⟨av, cv, rfl, -, hrow⟩ := ho8.row
  cases hpb : partsB ns iw 2 with
  | false =>
    have HZ : Hid (alV ns hd sa k = 0 ∧ alR ns hd sa k = false) := by
      have : alQ ns hd sa k = false := by unfold alQ; rw [HV.out.1, hpb]; rfl
      unfold alV alR; rw [this]; exact ⟨rfl, rfl⟩
    clear ho8 hrow hpb c8
    go_wp2
    go_ret2
    exact ⟨by rw [HZ.out.1, HZ.out.2]; rfl, HB8.out.1⟩
  | true =>
    have hlen := parts2L hpb
    obtain ⟨b, off, rfl⟩ := hrow.addr (i := 0) (by omega)
    have y0 := (hrow.at (Below.refl _ _) (i := 0) (by omega))
    have y1 := (hrow.at (Below.refl _ _) (i := 1) (by omega)).2
    have hblt := y0.1
    have y0' := y0.2
    rw [Nat.add_zero] at y0'
    have HP : Hid (alP ns hd k = partsV ns iw 2 ∧ alB ns hd k = true) := ⟨HV.out.2, HV.out.1.trans hpb⟩
    rw [hlen]
    generalize partsV ns iw 2 = xs at y0' y1 HP
    obtain ⟨x0, HX0⟩ : ∃ q, Hid (xs.getD 0 0 = q) := ⟨_, rfl⟩
    obtain ⟨x1, HX1⟩ : ∃ q, Hid (xs.getD 1 0 = q) := ⟨_, rfl⟩
    rw [HX0.out] at y0'
    rw [HX1.out] at y1
    clear ho8 hrow hpb hlen y0 HV
    by_cases he : x1 = q2
    · have HZ : Hid (alV ns hd sa k = numV ns x0 ∧ alR ns hd sa k = isK ns x0 1) := by
        have : alQ ns hd sa k = true := by unfold alQ; rw [HP.out.2, HP.out.1, HX1.out, HQ2.out, he]; simp
        unfold alV alR; rw [this, if_pos rfl, HP.out.1, HX0.out]; exact ⟨rfl, rfl⟩
      have hne : (x1 != q2) = false := by simp [he]
      have HNU : Hid (∀ wz, Below w8.heap.size w8 wz → Calls Tryz.prog 37 #[.agg #[.slice a ns.length cap], .int .i64 x0] wz fun e w' => e = .returned (.tuple #[.int .i64 (numV ns x0), .bool (isK ns x0 1)]) ∧ Below w.heap.size w w') := fun wz hz => by
        have hB := HB8.out.1.trans (hz.mono HB8.out.1.size)
        exact (implNum_any a cap ns x0 wz hl (HR.out.grown hB)).mono fun e w' ⟨p1, p2⟩ => ⟨p1, hB.trans (p2.mono hB.size)⟩
      generalize numV ns x0 = nv at HNU HZ
      generalize isK ns x0 1 = bv at HNU HZ
      clear he HP HX0 HX1
      go_wp2_with fail
      go_region_with (first | (go_at_call 37; refine Calls.mono (HNU.out _ ((Below.refl _ _).drew)) ?_; rintro e w9 ⟨rfl, hb9⟩))
      all_goals
        go_wp2
        go_ret2
        exact ⟨by rw [HZ.out.1, HZ.out.2]; rfl, hb9⟩
    · have HZ : Hid (alV ns hd sa k = 0 ∧ alR ns hd sa k = false) := by
        have : alQ ns hd sa k = false := by unfold alQ; rw [HP.out.2, HP.out.1, HX1.out, HQ2.out]; simp [he]
        unfold alV alR; rw [this]; exact ⟨rfl, rfl⟩
      have hne : (x1 != q2) = true := by simp [he]
      clear he HP HX0 HX1 c8
      go_wp2
      go_ret2
      exact ⟨by rw [HZ.out.1, HZ.out.2]; rfl, HB8.out.1⟩
end Go.Proofs.YtaanophnnkmkbaaGreat

namespace Go.Proofs.YtaanophnnkmkbaaGreat
open Go.RowKit Go.Maps
set_option linter.unusedVariables false
theorem sideK_look {ns M : List Nd} (ht : Tame ns) (hp : ns <+: M) (hd n : Int) : Rl ns.length ((Tl.two 4 (.pl hd) (.atom n)).look ns) (sideK M hd n) := by
  have h := (Tl.Agree.two (k := 4) (Tl.Agree.pl hd) (Tl.Agree.atom n)).rl ns M ht hp
  rwa [sideP_f] at h
theorem sideA_preS (M : List Nd) (hd n : Int) : M <+: sideA M hd n := by
  have h := (Tl.Agree.two (k := 4) (Tl.Agree.pl hd) (Tl.Agree.atom n)).pre M
  rwa [sideP_f] at h
theorem hashK_look {ns M : List Nd} (ht : Tame ns) (hp : ns <+: M) (sa : Int) : Rl ns.length ((Tl.hash (.pl sa)).look ns) (makeK M 3 sa 0) := by
  have h := (Tl.Agree.hash (Tl.Agree.pl sa)).rl ns M ht hp
  unfold makeK; rw [if_neg (by omega)]
  exact h
theorem makeA_preS (M : List Nd) (sa : Int) : M <+: makeA M 3 sa 0 := by
  unfold makeA; rw [if_neg (by omega)]; exact putAm_pre 3000 M _
theorem ackSame {ns : List Nd} (ht : Tame ns) (hd sa k : Int) : alV ns hd sa k = aiV ns hd sa k ∧ alR ns hd sa k = aiB ns hd sa k := by
  have h1 := sideK_look ht (List.prefix_refl ns) hd 40
  have hp := sideA_preS ns hd 40
  have h2 := hashK_look ht hp sa
  have hp2 := hp.trans (makeA_preS (sideA ns hd 40) sa)
  have eW : alW ns hd k = aiI ns hd k := openV_look h1 k
  have hQ : alQ ns hd sa k = aiC ns hd sa k ∧ (alQ ns hd sa k = true → alP ns hd k = aiP ns hd k ∧ InA ns ((alP ns hd k).getD 0 0)) := by
    unfold alQ aiC alB aiQ alP aiP aiO
    rw [eW]
    cases ho : openB ns (sideK ns hd 40) k with
    | false =>
      have e : aiI ns hd k = -1 := by unfold aiI openV; rw [ho]; rfl
      have e2 : partsB ns (-1) 2 = false := by
        cases hb : partsB ns (-1) 2 with
        | false => rfl
        | true => exact absurd (partsB_inA hb).1 (by omega)
      rw [e, e2]; simp
    | true =>
      have hi : InA ns (aiI ns hd k) := openV_inA ho
      rw [partsB_ext hp hi, partsV_ext hp hi]
      cases hb : partsB ns (aiI ns hd k) 2 with
      | false => simp
      | true =>
        have i0 := partsV_in hb 0 (by omega)
        have i1 := partsV_in hb 1 (by omega)
        refine ⟨?_, fun _ => ⟨rfl, i0⟩⟩
        generalize (partsV ns (aiI ns hd k) 2).getD 1 0 = z at i1 ⊢
        have := i1.1; have := i1.2
        have e : (z = lkH ns sa) ↔ (0 ≤ aiH ns hd sa ∧ z = aiH ns hd sa) := by
          unfold lkH aiH
          refine ⟨fun e => ?_, fun e => ?_⟩
          · have := h2.1 (by omega); omega
          · have := h2.2 (by omega) (by omega); omega
        simp [e]
  obtain ⟨q1, q2⟩ := hQ
  unfold alV alR aiV aiB
  rw [← q1]
  cases hq : alQ ns hd sa k with
  | false => simp
  | true =>
    obtain ⟨e, hi⟩ := q2 hq
    rw [← e]
    unfold aiA
    rw [numV_ext hp2 hi, isK_ext hp2 hi]
    exact ⟨rfl, rfl⟩
end Go.Proofs.YtaanophnnkmkbaaGreat

namespace Go.Proofs.YtaanophnnkmkbaaGreat
open Go.RowKit Go.Maps
set_option linter.unusedVariables false
theorem overK_look {ns M : List Nd} (ht : Tame ns) (hp : ns <+: M) (hd n sa : Int) : Rl ns.length ((Tl.two 9 (.two 4 (.pl hd) (.atom n)) (.hash (.pl sa))).look ns) (overK M 9 hd n sa) := by
  have h := (Tl.Agree.two (k := 9) (Tl.Agree.two (k := 4) (Tl.Agree.pl hd) (Tl.Agree.atom n)) (Tl.Agree.hash (Tl.Agree.pl sa))).rl ns M ht hp
  rwa [overP_f] at h
theorem wdK_look {ns M : List Nd} (ht : Tame ns) (hp : ns <+: M) (m sa : Int) : Rl ns.length ((Tl.list [.atom m, .hash (.pl sa)]).look ns) (wdK M m sa) := by
  have h := (Tl.Agree.list (xs := [.atom m, .hash (.pl sa)]) (by
    intro x hx
    simp at hx
    rcases hx with rfl | rfl
    · exact Tl.Agree.atom m
    · exact Tl.Agree.hash (Tl.Agree.pl sa))).rl ns M ht hp
  rwa [wordsP_f] at h
theorem crtB_ext {ns A : List Nd} (hp : ns <+: A) {k : Int} (hk : InA ns k) : crtB A k = crtB ns k := by
  unfold crtB
  rw [isK_ext hp hk, ndAt_ext hp hk]
  cases h : isK ns k 8 with
  | false => rfl
  | true =>
    have ha := (isK_part h (by decide)).1
    have hb := (isK_part h (by decide)).2 rfl
    rw [numIs_ext hp ha, partsB_ext hp hb]
    cases h2 : partsB ns (ndAt ns k).b 3 with
    | false => simp
    | true =>
      have i0 := partsV_in h2 0 (by omega)
      have i1 := partsV_in h2 1 (by omega)
      have i2 := partsV_in h2 2 (by omega)
      rw [p3_ext hp hb, p3_ext hp hb, p3_ext hp hb]
      rw [numIs_ext hp (k := p3 ns (ndAt ns k).b 0) i0, isK_ext hp (k := p3 ns (ndAt ns k).b 2) i2, isK_ext hp (k := p3 ns (ndAt ns k).b 1) i1, numV_ext hp (k := p3 ns (ndAt ns k).b 1) i1]
theorem crtB_in {ns : List Nd} {k : Int} (h : crtB ns k = true) : InA ns k ∧ InA ns (ndAt ns k).b ∧ InA ns (p3 ns (ndAt ns k).b 1) ∧ InA ns (p3 ns (ndAt ns k).b 2) := by
  unfold crtB at h
  simp only [Bool.and_eq_true] at h
  exact ⟨isK_inA h.1, (isK_part h.1 (by decide)).2 rfl, isK_inA h.2.2.2.2.2.1, isK_inA h.2.2.2.2.1⟩
theorem crtN_ext {ns A : List Nd} (hp : ns <+: A) {k : Int} (hk : InA ns k) : crtN A k = crtN ns k := by
  unfold crtN
  rw [crtB_ext hp hk]
  cases h : crtB ns k with
  | false => rfl
  | true =>
    obtain ⟨i1, i2, i3, i4⟩ := crtB_in h
    rw [ndAt_ext hp hk, p3_ext hp i2, numV_ext hp i3]
theorem crtP_ext {ns A : List Nd} (hp : ns <+: A) {k : Int} (hk : InA ns k) : crtP A k = crtP ns k := by
  unfold crtP
  rw [crtB_ext hp hk]
  cases h : crtB ns k with
  | false => rfl
  | true =>
    obtain ⟨i1, i2, i3, i4⟩ := crtB_in h
    rw [ndAt_ext hp hk, p3_ext hp i2]
theorem signB_ext {ns A : List Nd} (hp : ns <+: A) {q k : Int} (hq : InA ns q) (hk : InA ns k) : signB A q k = signB ns q k := by
  unfold signB; rw [isK_ext hp hq, isK_ext hp hk, ndAt_ext hp hq, ndAt_ext hp hk]
theorem signV_ext {ns A : List Nd} (hp : ns <+: A) {q k : Int} (hq : InA ns q) (hk : InA ns k) : signV A q k = signV ns q k := by
  unfold signV; rw [signB_ext hp hq hk, ndAt_ext hp hk]
theorem signV_in {ns : List Nd} {q k : Int} (h : signB ns q k = true) : InA ns (signV ns q k) := by
  unfold signV; rw [if_pos h]
  unfold signB at h
  simp only [Bool.and_eq_true] at h
  exact (isK_part h.2.1 (by decide)).2 rfl
theorem eq_look {ns : List Nd} {l p z : Int} (h : Rl ns.length l p) (hz : InA ns z) : (z = l) ↔ (z = p) := by
  have := hz.1; have := hz.2
  refine ⟨fun e => ?_, fun e => ?_⟩
  · have := h.1 (by omega); omega
  · have := h.2 (by omega) (by omega); omega
theorem whSame {ns A : List Nd} (ht : Tame ns) (hp : ns <+: A) (m8 mo nm sa : Int) {c s : Int} (hc : InA ns c) (hs : InA ns s) : whB ns mo nm (lkS ns m8 sa) c s = poX A m8 mo nm sa c s := by
  have hw : Rl ns.length (lkS ns m8 sa) (wdK A m8 sa) := wdK_look ht hp m8 sa
  unfold whB poX
  split
  · rw [crtB_ext hp hc, crtN_ext hp hc, crtP_ext hp hc]
    cases h : crtB ns c with
    | false => rfl
    | true =>
      have hq : InA ns (crtP ns c) := by unfold crtP; rw [if_pos h]; exact (crtB_in h).2.2.2
      rw [signB_ext hp hq hs, signV_ext hp hq hs]
      cases h2 : signB ns (crtP ns c) s with
      | false => simp
      | true =>
        have hv := signV_in h2
        have e := eq_look hw hv
        have e2 : signV ns (crtP ns c) s = lkS ns m8 sa ↔ (signV ns (crtP ns c) s = wdK A m8 sa ∧ 0 ≤ wdK A m8 sa) := by
          have := hv.1
          rw [e]
          exact ⟨fun q => ⟨q, by omega⟩, fun q => q.1⟩
        simp [e2]
  · rw [numIs_ext hp hc, numIs_ext hp hs]
theorem partSame {ns : List Nd} (ht : Tame ns) (sd hd m1 m8 mo nm sa k : Int) : plB ns sd hd m1 m8 mo nm sa k = poB ns sd hd m1 m8 mo nm sa k := by
  have h1 := sideK_look ht (List.prefix_refl ns) hd sd
  have hp := sideA_preS ns hd sd
  have h2 := overK_look ht hp hd m1 sa
  have hp2 := hp.trans (overA_pre (sideA ns hd sd) 9 hd m1 sa)
  have eW : plW ns hd sd k = poI ns sd hd k := openV_look h1 k
  unfold plB poB poC plQ poQ plP p3 poP poO
  rw [eW]
  cases ho : openB ns (sideK ns hd sd) k with
  | false =>
    have e : poI ns sd hd k = -1 := by unfold poI openV; rw [ho]; rfl
    have e2 : partsB ns (-1) 3 = false := by
      cases hb : partsB ns (-1) 3 with
      | false => rfl
      | true => exact absurd (partsB_inA hb).1 (by omega)
    rw [e, e2]; simp
  | true =>
    have hi : InA ns (poI ns sd hd k) := openV_inA ho
    rw [partsB_ext hp hi, partsV_ext hp hi]
    cases hb : partsB ns (poI ns sd hd k) 3 with
    | false => simp
    | true =>
      have i0 := partsV_in hb 0 (by omega)
      have i1 := partsV_in hb 1 (by omega)
      have i2 := partsV_in hb 2 (by omega)
      rw [whSame (A := poA ns sd hd m1 sa) ht hp2 m8 mo nm sa i0 i1]
      generalize poX (poA ns sd hd m1 sa) m8 mo nm sa ((partsV ns (poI ns sd hd k) 3).getD 0 0) ((partsV ns (poI ns sd hd k) 3).getD 1 0) = X
      generalize (partsV ns (poI ns sd hd k) 3).getD 2 0 = z at i2 ⊢
      have e : (z = lkD ns hd m1 sa) ↔ (0 ≤ poM ns sd hd m1 sa ∧ z = poM ns sd hd m1 sa) := by
        have q : (z = lkD ns hd m1 sa) ↔ (z = poM ns sd hd m1 sa) := eq_look h2 i2
        have := i2.1
        rw [q]
        exact ⟨fun q => ⟨by omega, q⟩, fun q => q.2⟩
      cases X <;> simp [e]
end Go.Proofs.YtaanophnnkmkbaaGreat
