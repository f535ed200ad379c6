/- A cookie as a term that is told (chapter 9), for the program's CookieOf. -/
import Derived.Test.YtffnadnndmmliaaCook9
import Derived.Test.YtffnadnndmmliaaTold7
namespace Go.Proofs.Ytffnadnndmmliaa
open Go.RowKit
set_option linter.unusedVariables false
theorem make_as9 {ns : List Nd} {k x y : Int} (h : ¬ (k = 1 ∨ k = 7)) : makeA ns k x y = putA ns (mkNd k x y) ∧ makeK ns k x y = putK ns (mkNd k x y) := by
  unfold makeA makeK; rw [if_neg h, if_neg h]; exact ⟨rfl, rfl⟩
def cookT (s d h : Int) : Tl := .two 9 (.atom s) (.list [.atom d, .hash (.pl h)])
theorem cookT_f (ns : List Nd) (s d h : Int) : (cookT s d h).f ns = (ckA ns s d h, ckK ns s d h) := by
  unfold ckA ckK ckL ckA3 ckK3
  rw [(make_as9 (k := 9) (by omega)).1, (make_as9 (k := 9) (by omega)).2, (make_as9 (k := 3) (by omega)).1, (make_as9 (k := 3) (by omega)).2]
  rfl
theorem ckK_neg {ns : List Nd} {s d h : Int} (hk : ckK ns s d h < 0) : ckK ns s d h = -1 := makeK_neg (show makeK _ _ _ _ < 0 from hk)
theorem cookT_wf {s d h : Int} (hs : (Lit.int .i64 s).wf = true) (hd : (Lit.int .i64 d).wf = true) (hh : (Lit.int .i64 h).wf = true) : (cookT s d h).Wf := ⟨by omega, by omega, hs, by simp, hd, hh, trivial⟩
theorem ifneg9 {K : Int} (h : K < 0 → K = -1) : (if K < 0 then -1 else K) = K := by
  split
  · rename_i h1; exact (h h1).symm
  · rfl
/-- What putIn gives of it. -/
theorem cookPut {L : Nat} (v : Value) (a : Option Addr) (cap : Nat) (ns : List Nd) (s d h : Int) (w : World) (hl : ns.length ≤ 1048576) (hf : ∀ y ∈ ns, y.Fits) (hs : (Lit.int .i64 s).wf = true) (hd : (Lit.int .i64 d).wf = true) (hh : (Lit.int .i64 h).wf = true) (ha : AddrN a cap) (hr : RowN w.heap.size w a ns) (ht : ToldIs L w.heap.size w (cookT s d h) v) :
    Calls Try.prog 112 #[v, .agg #[.slice a ns.length cap]] w fun e w' => ∃ v', e = .returned (.tuple #[.agg #[v'], .int .i64 (ckK ns s d h)]) ∧ OwnC w.heap.size w' v' (keptA ns (ckA ns s d h) (ckK ns s d h)) ∧ Below w.heap.size w w' := by
  have := putIn_any (cookT s d h) v a cap ns w (cookT_wf hs hd hh) ht hl hf ha hr
  rw [cookT_f] at this
  simp only at this
  rw [ifneg9 (K := ckK ns s d h) (fun hk => ckK_neg hk)] at this
  exact this
theorem toldAll2 {L B : Nat} {w : World} {x y : Tl} {a b : Value} (h1 : ToldIs L B w x a) (h2 : ToldIs L B w y b) : ToldAll L B w [x, y] [a, b] := by
  refine ⟨rfl, fun m hm => ?_⟩
  rcases (show m = 0 ∨ m = 1 by simp at hm; omega) with rfl | rfl
  · exact h1
  · exact h2
end Go.Proofs.Ytffnadnndmmliaa
