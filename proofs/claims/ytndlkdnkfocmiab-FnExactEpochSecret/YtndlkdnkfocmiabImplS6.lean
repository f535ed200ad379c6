/- The program's functions of chapter 6: secrets, told by closures. -/
import Derived.Test.YtndlkdnkfocmiabTold7
import Derived.Test.YtndlkdnkfocmiabLawClip
import Derived.OpenShut
import Derived.Test.YtndlkdnkfocmiabRegionK
import Derived.Test.YtndlkdnkfocmiabRegionA
namespace Go.Proofs.Ytndlkdnkfocmiab
open Go.RowKit Go.Maps
set_option linter.unusedVariables false
theorem make_as {ns : List Nd} {k x y : Int} (h : ¬ (k = 1 ∨ k = 7)) : makeA ns k x y = putA ns (mkNd k x y) ∧ makeK ns k x y = putK ns (mkNd k x y) := by
  unfold makeA makeK; rw [if_neg h, if_neg h]; exact ⟨rfl, rfl⟩
def sideT (x : Tl) (n : Int) : Tl := .two 4 x (.atom n)
theorem sideT_f (x : Tl) (n : Int) (ns : List Nd) : (sideT x n).f ns = (sideA (x.f ns).1 (x.f ns).2 n, sideK (x.f ns).1 (x.f ns).2 n) := by
  unfold sideA sideK
  rw [(make_as (by omega)).1, (make_as (by omega)).2]
  rfl
def handT (s p b : Int) : Tl := .two 4 (.two 2 (.pl s) (.pl p)) (.hash (.pl b))
theorem handT_f (s p b : Int) (ns : List Nd) : (handT s p b).f ns = (handA ns s p b, handK ns s p b) := by
  unfold handA handK
  rw [(make_as (k := 4) (by omega)).1, (make_as (k := 4) (by omega)).2, (make_as (k := 3) (by omega)).1, (make_as (k := 3) (by omega)).2, (make_as (k := 2) (by omega)).1, (make_as (k := 2) (by omega)).2]
  rfl
def overT (k s n d : Int) : Tl := .two k (.two 4 (.pl s) (.atom n)) (.hash (.pl d))
theorem overT_f (k s n d : Int) (ns : List Nd) (h : ¬ (k = 1 ∨ k = 7)) : (overT k s n d).f ns = (overA ns k s n d, overK ns k s n d) := by
  have e : ((Tl.two 4 (.pl s) (.atom n)).f ns) = (sideA ns s n, sideK ns s n) := sideT_f (.pl s) n ns
  unfold overA overK
  rw [(make_as h).1, (make_as h).2, (make_as (k := 3) (by omega)).1, (make_as (k := 3) (by omega)).2]
  show (putA (putA ((Tl.two 4 (.pl s) (.atom n)).f ns).1 (mkNd 3 d 0)) (mkNd k ((Tl.two 4 (.pl s) (.atom n)).f ns).2 (putK ((Tl.two 4 (.pl s) (.atom n)).f ns).1 (mkNd 3 d 0))), putK (putA ((Tl.two 4 (.pl s) (.atom n)).f ns).1 (mkNd 3 d 0)) (mkNd k ((Tl.two 4 (.pl s) (.atom n)).f ns).2 (putK ((Tl.two 4 (.pl s) (.atom n)).f ns).1 (mkNd 3 d 0)))) = _
  rw [e]
def epochT (k : Int) : Nat → Tl
  | 0 => .pl k
  | m + 1 => .two 4 (epochT k m) (.atom 30)
theorem epochT_f (k : Int) (ns : List Nd) : ∀ m, (epochT k m).f ns = epochF ns k m
  | 0 => rfl
  | m + 1 => by
    show (sideT (epochT k m) 30).f ns = _
    rw [sideT_f, epochT_f k ns m]
    rfl
theorem wf20 : (Lit.int .i64 20).wf = true := by decide
theorem wf30 : (Lit.int .i64 30).wf = true := by decide
theorem epochT_wf {k : Int} (h : (Lit.int .i64 k).wf = true) : ∀ m, (epochT k m).Wf
  | 0 => h
  | m + 1 => ⟨by omega, by omega, epochT_wf h m, wf30⟩
theorem ifneg_same {K : Int} (h : K < 0 → K = -1) : (if K < 0 then -1 else K) = K := by
  split
  · rename_i h1; exact (h h1).symm
  · rfl
theorem overK_neg {ns : List Nd} {k s n d : Int} (h : overK ns k s n d < 0) : overK ns k s n d = -1 := makeK_neg (show makeK _ _ _ _ < 0 from h)
theorem handK_neg {ns : List Nd} {s p b : Int} (h : handK ns s p b < 0) : handK ns s p b = -1 := makeK_neg (show makeK _ _ _ _ < 0 from h)

theorem epoch_no {ns : List Nd} {k ep : Int} (h : epochB ns k ep = false) : epochK ns k ep = -1 ∧ keptA ns (epochA ns k ep) (epochK ns k ep) = ns := by
  have e : epochK ns k ep = -1 := by unfold epochK; rw [h]; rfl
  exact ⟨e, keptA_neg (by rw [e]; omega)⟩
theorem epochT_neg {ns : List Nd} {k : Int} (h : okAt ns k = true) (m : Nat) : (epochF ns k m).2 < 0 → (epochF ns k m).2 = -1 := by
  obtain ⟨i, e, _⟩ := okAt_in h
  exact epochF_neg (by omega) m
set_option maxHeartbeats 3200000 in
set_option maxRecDepth 20000 in
theorem implEpoch_any (a : Option Addr) (cap : Nat) (ns : List Nd) (k : Int) (ep : Int) (w : World) (hl : ns.length ≤ 1048576) (hf : ∀ y ∈ ns, y.Fits) (hk : (Lit.int .i64 k).wf = true) (hep : (Lit.int .i64 ep).wf = true) (ha : AddrN a cap) (hr : RowN w.heap.size w a ns) :
    Calls Try.prog 7 #[.agg #[.slice a ns.length cap], .int .i64 k, .int .i64 ep] w fun e w' => ∃ v, e = .returned (.tuple #[.agg #[v], .int .i64 (epochK ns k ep)]) ∧ OwnC w.heap.size w' v (keptA ns (epochA ns k ep) (epochK ns k ep)) ∧ Below w.heap.size w w' := by
  obtain ⟨KK, hKK⟩ : ∃ X, epochK ns k ep = X := ⟨_, rfl⟩
  obtain ⟨KP, hKP⟩ : ∃ X, keptA ns (epochA ns k ep) (epochK ns k ep) = X := ⟨_, rfl⟩
  have HEQ : Hid (epochK ns k ep = KK ∧ keptA ns (epochA ns k ep) (epochK ns k ep) = KP) := ⟨hKK, hKP⟩
  rw [hKP, hKK]
  clear hKP hKK
  obtain ⟨w0, he, hb0, hs0, hA0, hr0⟩ := two_cells a ns.length cap w
  have HC0 : Hid (w0.heap[w.heap.size]? = some (.cells #[.slice a ns.length cap] 28 (0, 0)) ∧ w0.heap[w.heap.size + 1]? = some (.cells #[.slice none 0 0] 28 (0, 0)) ∧ Below w.heap.size w w0 ∧ w.heap.size + 2 ≤ w0.heap.size) := ⟨hA0, hr0, hb0, by omega⟩
  have HAD : Hid (AddrN a cap) := ha
  have HR : Hid (RowN w.heap.size w a ns) := hr
  have HF : Hid (∀ y ∈ ns, y.Fits) := hf
  clear ha hr hf hb0 hs0 hA0 hr0
  have c0 : w0.cell? ⟨w.heap.size, 0, none⟩ = some (.slice a ns.length cap) := (cell_of_row _ _ 0 _ _ _ HC0.out.1).trans rfl
  rw [he] at c0
  by_cases h0 : ep < 0
  · have HNO : Hid (KK = -1 ∧ KP = ns) := by obtain ⟨e1, e2⟩ := HEQ.out; rw [← e1, ← e2]; exact epoch_no (by unfold epochB inB; rw [decide_eq_false (by omega)]; rfl)
    go_enter Try.func7, Try.ntmps7
    go_wp2_with fail
    rw [← he] at c0 ⊢
    clear he
    refine Calls.mono (asIs_any a cap ns w0 hl HAD.out (HR.out.grown HC0.out.2.2.1)) ?_
    rintro e w9 ⟨v9, rfl, ho, hb⟩
    obtain ⟨a9, c9, rfl, -, -⟩ := ho.row
    obtain ⟨r0, f0, HE⟩ := fin_arena (HC0.out.2.2.1.trans (hb.mono (by have := HC0.out.2.2.2; omega))) ((hb.block _ (by have := HC0.out.2.2.2; omega)).trans HC0.out.2.1) (by have := HC0.out.2.2.2; omega) ho.clip
    clear ho hb c0 HC0
    go_wp2
    refine bodyPost_ret (res_cell2 rfl _ _ (w.heap.size + 1) 28 #[.slice a9 ns.length c9] (0, 0) _ rfl ?_ Try.underlying28 rfl arenaSize) rfl ?_
    · exact HE.out.1
    · exact ⟨_, by rw [HNO.out.1]; rfl, by rw [HNO.out.2]; exact HE.out.2.1, HE.out.2.2⟩
  by_cases h8 : 8 < ep
  · have HNO : Hid (KK = -1 ∧ KP = ns) := by obtain ⟨e1, e2⟩ := HEQ.out; rw [← e1, ← e2]; exact epoch_no (by unfold epochB inB; rw [decide_eq_false (show ¬ ep ≤ 8 by omega), Bool.and_false]; rfl)
    go_enter Try.func7, Try.ntmps7
    go_wp2_with fail
    rw [← he] at c0 ⊢
    clear he
    refine Calls.mono (asIs_any a cap ns w0 hl HAD.out (HR.out.grown HC0.out.2.2.1)) ?_
    rintro e w9 ⟨v9, rfl, ho, hb⟩
    obtain ⟨a9, c9, rfl, -, -⟩ := ho.row
    obtain ⟨r0, f0, HE⟩ := fin_arena (HC0.out.2.2.1.trans (hb.mono (by have := HC0.out.2.2.2; omega))) ((hb.block _ (by have := HC0.out.2.2.2; omega)).trans HC0.out.2.1) (by have := HC0.out.2.2.2; omega) ho.clip
    clear ho hb c0 HC0
    go_wp2
    refine bodyPost_ret (res_cell2 rfl _ _ (w.heap.size + 1) 28 #[.slice a9 ns.length c9] (0, 0) _ rfl ?_ Try.underlying28 rfl arenaSize) rfl ?_
    · exact HE.out.1
    · exact ⟨_, by rw [HNO.out.1]; rfl, by rw [HNO.out.2]; exact HE.out.2.1, HE.out.2.2⟩
  obtain ⟨d2, HD2⟩ : ∃ d, Hid (okAt ns k = d) := ⟨_, rfl⟩
  obtain ⟨m0, rfl⟩ := Int.eq_ofNat_of_zero_le (show 0 ≤ ep by omega)
  have hm8 : m0 ≤ 8 := by omega
  go_enter Try.func7, Try.ntmps7
  go_wp2_with fail
  rw [← he] at c0 ⊢
  clear he
  refine Calls.mono (implOk_any a cap ns k w0 hl (HR.out.grown HC0.out.2.2.1)) ?_
  rintro e w1 ⟨rfl, hb⟩
  rw [HD2.out]
  clear c0
  have HC1 : Hid (w1.heap[w.heap.size]? = some (.cells #[.slice a ns.length cap] 28 (0, 0)) ∧ w1.heap[w.heap.size + 1]? = some (.cells #[.slice none 0 0] 28 (0, 0)) ∧ Below w.heap.size w w1 ∧ w.heap.size + 2 ≤ w1.heap.size) := ⟨(hb.block _ (by have := HC0.out.2.2.2; omega)).trans HC0.out.1, (hb.block _ (by have := HC0.out.2.2.2; omega)).trans HC0.out.2.1, HC0.out.2.2.1.trans (hb.mono (by have := HC0.out.2.2.2; omega)), by have := HC0.out.2.2.2; have := hb.size; omega⟩
  have c0 : w1.cell? ⟨w.heap.size, 0, none⟩ = some (.slice a ns.length cap) := (cell_of_row _ _ 0 _ _ _ HC1.out.1).trans rfl
  clear hb HC0
  cases d2
  · have HNO : Hid (KK = -1 ∧ KP = ns) := by obtain ⟨e1, e2⟩ := HEQ.out; rw [← e1, ← e2]; exact epoch_no (by unfold epochB; rw [HD2.out, Bool.and_false])
    go_wp2_with fail
    refine Calls.mono (asIs_any a cap ns w1 hl HAD.out (HR.out.grown HC1.out.2.2.1)) ?_
    rintro e w9 ⟨v9, rfl, ho, hb⟩
    obtain ⟨a9, c9, rfl, -, -⟩ := ho.row
    obtain ⟨r0, f0, HE⟩ := fin_arena (HC1.out.2.2.1.trans (hb.mono (by have := HC1.out.2.2.2; omega))) ((hb.block _ (by have := HC1.out.2.2.2; omega)).trans HC1.out.2.1) (by have := HC1.out.2.2.2; omega) ho.clip
    clear ho hb c0 HC1
    go_wp2
    refine bodyPost_ret (res_cell2 rfl _ _ (w.heap.size + 1) 28 #[.slice a9 ns.length c9] (0, 0) _ rfl ?_ Try.underlying28 rfl arenaSize) rfl ?_
    · exact HE.out.1
    · exact ⟨_, by rw [HNO.out.1]; rfl, by rw [HNO.out.2]; exact HE.out.2.1, HE.out.2.2⟩
  · have HYES : Hid (∀ (v : Value) (wz : World), Below w.heap.size w wz → Lies (w.heap.size + 2) wz.heap.size wz (epochT k m0) v → Calls Try.prog 21 #[v, .agg #[.slice a ns.length cap]] wz fun e w' => ∃ v', e = .returned (.tuple #[.agg #[v'], .int .i64 KK]) ∧ OwnC wz.heap.size w' v' KP ∧ Below wz.heap.size wz w') := fun v wz hb ht => by
      have hB : epochB ns k (m0 : Int) = true := by unfold epochB inB; rw [HD2.out, decide_eq_true (show (0 : Int) ≤ (m0 : Int) by omega), decide_eq_true (show (m0 : Int) ≤ 8 by omega)]; rfl
      have e1 : epochK ns k (m0 : Int) = (epochF ns k m0).2 := by unfold epochK; rw [hB]; simp
      have e2 : epochA ns k (m0 : Int) = (epochF ns k m0).1 := by unfold epochA; rw [hB]; simp
      have := putIn_any (epochT k m0) v a cap ns wz (epochT_wf hk m0) ht hl HF.out HAD.out (HR.out.grown hb)
      rw [epochT_f, ifneg_same (epochT_neg HD2.out m0)] at this
      obtain ⟨q1, q2⟩ := HEQ.out
      rw [← q1, ← q2, e1, e2]
      exact this
    clear HAD HR HF HD2 HEQ
    go_wp2_with fail
    refine Calls.mono (toldAt_any (L := (w.heap.size + 2)) k w1 HC1.out.2.2.2) ?_
    rintro e w2 ⟨v2, rfl, ht, hb⟩
    clear c0
    have HC2 : Hid (w2.heap[w.heap.size]? = some (.cells #[.slice a ns.length cap] 28 (0, 0)) ∧ w2.heap[w.heap.size + 1]? = some (.cells #[.slice none 0 0] 28 (0, 0)) ∧ Below w.heap.size w w2 ∧ w.heap.size + 2 ≤ w2.heap.size) := ⟨(hb.block _ (by have := HC1.out.2.2.2; omega)).trans HC1.out.1, (hb.block _ (by have := HC1.out.2.2.2; omega)).trans HC1.out.2.1, HC1.out.2.2.1.trans (hb.mono (by have := HC1.out.2.2.2; omega)), by have := HC1.out.2.2.2; have := hb.size; omega⟩
    have T2 : Hid (Lies (w.heap.size + 2) w2.heap.size w2 (epochT k 0) v2) := ht
    clear ht hb HC1
    obtain ⟨F2, cs2, rfl⟩ := T2.out.fn
    go_wp2
    go_loopw [8, 28] (fun sv iv wr => ∃ (m : Nat) (F : FuncId) (cs : Array Value), m ≤ m0 ∧ iv = .int .i64 (m : Int) ∧ sv = .func (.func F) #[] cs ∧ Hid (Lies (w.heap.size + 2) wr.heap.size wr (epochT k m) (.func (.func F) #[] cs)) ∧ Hid (wr.heap[w.heap.size]? = some (.cells #[.slice a ns.length cap] 28 (0, 0)) ∧ wr.heap[w.heap.size + 1]? = some (.cells #[.slice none 0 0] 28 (0, 0)) ∧ Below w.heap.size w wr ∧ w.heap.size + 2 ≤ wr.heap.size))
      (fun _ iv _ => m0 - (intOf iv).toNat)
    case atStart => exact ⟨0, _, _, Nat.zero_le _, rfl, rfl, T2, HC2⟩
    case round =>
      clear T2 HC2
      obtain ⟨m, F, cs, hm, rfl, rfl, T3, HC3'⟩ := hrel
      obtain ⟨w3, rfl⟩ : ∃ w3, w3 = wr := ⟨_, rfl⟩
      have HC3 : Hid (w3.heap[w.heap.size]? = some (.cells #[.slice a ns.length cap] 28 (0, 0)) ∧ w3.heap[w.heap.size + 1]? = some (.cells #[.slice none 0 0] 28 (0, 0)) ∧ Below w.heap.size w w3 ∧ w.heap.size + 2 ≤ w3.heap.size) := HC3'
      clear HC3'
      by_cases hlt : m < m0
      · have hi1 : (m : Int) < (m0 : Int) := by omega
        go_wp2_with fail
        refine Calls.mono (toldAtom_any (L := (w.heap.size + 2)) 30 w3 HC3.out.2.2.2) ?_
        rintro e w4 ⟨v4, rfl, ht, hb⟩
        have HC4 : Hid (w4.heap[w.heap.size]? = some (.cells #[.slice a ns.length cap] 28 (0, 0)) ∧ w4.heap[w.heap.size + 1]? = some (.cells #[.slice none 0 0] 28 (0, 0)) ∧ Below w.heap.size w w4 ∧ w.heap.size + 2 ≤ w4.heap.size) := ⟨(hb.block _ (by have := HC3.out.2.2.2; omega)).trans HC3.out.1, (hb.block _ (by have := HC3.out.2.2.2; omega)).trans HC3.out.2.1, HC3.out.2.2.1.trans (hb.mono (by have := HC3.out.2.2.2; omega)), by have := HC3.out.2.2.2; have := hb.size; omega⟩
        have T4 : Hid (Lies (w.heap.size + 2) w4.heap.size w4 (epochT k m) (.func (.func F) #[] cs)) := Lies.base hb.size _ (Lies.later hb _ T3.out)
        obtain ⟨F4, cs4, rfl⟩ := ht.fn
        have T5 : Hid (Lies (w.heap.size + 2) w4.heap.size w4 (.atom 30) (.func (.func F4) #[] cs4)) := ht
        clear ht hb HC3 T3
        go_wp2_with fail
        refine Calls.mono (toldKdf_any (L := (w.heap.size + 2)) (epochT k m) (.atom 30) _ _ w4 HC4.out.2.2.2 T4.out T5.out) ?_
        rintro e w5 ⟨v5, rfl, ht, hb⟩
        have HC5 : Hid (w5.heap[w.heap.size]? = some (.cells #[.slice a ns.length cap] 28 (0, 0)) ∧ w5.heap[w.heap.size + 1]? = some (.cells #[.slice none 0 0] 28 (0, 0)) ∧ Below w.heap.size w w5 ∧ w.heap.size + 2 ≤ w5.heap.size) := ⟨(hb.block _ (by have := HC4.out.2.2.2; omega)).trans HC4.out.1, (hb.block _ (by have := HC4.out.2.2.2; omega)).trans HC4.out.2.1, HC4.out.2.2.1.trans (hb.mono (by have := HC4.out.2.2.2; omega)), by have := HC4.out.2.2.2; have := hb.size; omega⟩
        obtain ⟨F5, cs5, rfl⟩ := ht.fn
        have T6 : Hid (Lies (w.heap.size + 2) w5.heap.size w5 (epochT k (m + 1)) (.func (.func F5) #[] cs5)) := ht
        clear ht hb HC4 T4 T5
        go_wp2
        go_roundw
        case rel => exact ⟨m + 1, _, _, by omega, by go_num, rfl, T6, HC5⟩
        case measure => simp [intOf] <;> omega
      · obtain rfl : m = m0 := by omega
        have c0 : w3.cell? ⟨w.heap.size, 0, none⟩ = some (.slice a ns.length cap) := (cell_of_row _ _ 0 _ _ _ HC3.out.1).trans rfl
        go_wp2_with fail
        refine Calls.mono (HYES.out _ w3 HC3.out.2.2.1 T3.out) ?_
        rintro e w9 ⟨v9, rfl, ho, hb⟩
        obtain ⟨a9, c9, rfl, -, -⟩ := ho.row
        obtain ⟨r0, f0, HE⟩ := fin_arena (HC3.out.2.2.1.trans (hb.mono (by have := HC3.out.2.2.2; omega))) ((hb.block _ (by have := HC3.out.2.2.2; omega)).trans HC3.out.2.1) (by have := HC3.out.2.2.2; omega) ho
        clear ho hb c0 HC3 HYES T3
        go_wp2
        refine bodyPost_ret (res_cell2 rfl _ _ (w.heap.size + 1) 28 #[.slice a9 KP.length c9] (0, 0) _ rfl ?_ Try.underlying28 rfl arenaSize) rfl ?_
        · exact HE.out.1
        · exact ⟨_, rfl, HE.out.2.1, HE.out.2.2⟩

end Go.Proofs.Ytndlkdnkfocmiab
