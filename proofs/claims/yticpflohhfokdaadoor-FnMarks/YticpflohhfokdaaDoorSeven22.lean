/- One byte ahead of a code, by append, is a code again (a code may be nil). -/
import Derived.Test.YticpflohhfokdaaDoorCurW
import Derived.Test.YticpflohhfokdaaDoorCodeW
import Derived.Laws.AppendOwn
import Derived.Laws.OwnMore
import Derived.Below
import Derived.Tactics
namespace Go.Proofs.YticpflohhfokdaaDoor
open Go.RowKit
set_option linter.unusedVariables false
theorem run_append_none (w : World) (ty : TypeId) (base : Nat) (i : TypeInfo) (hi : Tryd.prog.info? 5 = some i) (v : Value) (n : Nat) (xs : List Value) (hown : w.ownsRow base 5 1 v n xs) (c : Nat) :
    (Builtin.append_ #[22, 22] ty #[v, .slice none 0 c]).run Tryd.prog w = .ok v w := by
  rcases hown.2 with ⟨rfl, rfl⟩ | ⟨g, cap, cur, rfl, _, _, hnc, _⟩
  · simp [Builtin.append_, run_underlying Tryd.underlying22, sizeOf, typeInfo, hi, Builtin.lenOf, Builtin.firstCells]
  · simp [Builtin.append_, run_underlying Tryd.underlying22, sizeOf, typeInfo, hi, Builtin.lenOf, Builtin.firstCells, hnc, storeCells]
theorem code_of_own {w : World} {base : Nat} {v : Value} {n : Nat} {zs : List Int} (h : w.ownsRow base 5 1 v n (zs.map (Value.int .u8))) (hn0 : 0 < n) (hn : n ≤ 1048577) (hz : ∀ z ∈ zs, 0 ≤ z ∧ z ≤ 255) :
    ∃ ac cap, v = .slice ac n cap ∧ CodeIn w.heap.size w ac n := by
  have hl : zs.length = n := by simpa using h.1
  rcases h.2 with ⟨rfl, rfl⟩ | ⟨g, cap, cur, rfl, _, hg, hnc, hcm, hcs, htake⟩
  · omega
  · refine ⟨_, _, rfl, hn, .inr ⟨g, 0, rfl, (Array.getElem?_eq_some_iff.1 hg).1, fun i hi => ?_⟩⟩
    have hc := h.cells (g := g) rfl i (.int .u8 (zs.getD i 0)) (by
      rw [List.getElem?_map, List.getD_eq_getElem?_getD, List.getElem?_eq_getElem (by omega)]; rfl)
    rw [Addr.add_lit] at hc
    refine ⟨_, hc, ?_⟩
    rw [List.getD_eq_getElem?_getD, List.getElem?_eq_getElem (by omega)]
    exact hz _ (List.getElem_mem _)
/-- The bytes of a code, as a list. -/
theorem code_list {B : Nat} {w : World} {b off len : Nat} (h : ∀ i, i < len → ∃ z, w.cell? ⟨b, off + i, none⟩ = some (.int .u8 z) ∧ 0 ≤ z ∧ z ≤ 255) :
    ∃ zs : List Int, zs.length = len ∧ (∀ z ∈ zs, 0 ≤ z ∧ z ≤ 255) ∧ ∀ j u, (zs.map (Value.int .u8))[j]? = some u → w.cell? ((⟨b, off, none⟩ : Addr).add j) = some u := by
  induction len with
  | zero => exact ⟨[], rfl, by simp, by simp⟩
  | succ k ih =>
    obtain ⟨zs, h1, h2, h3⟩ := ih (fun i hi => h i (by omega))
    obtain ⟨z, hz, h0, h255⟩ := h k (by omega)
    refine ⟨zs ++ [z], by simp [h1], ?_, ?_⟩
    · intro x hx
      rcases List.mem_append.1 hx with hx | hx
      · exact h2 x hx
      · rw [List.mem_singleton.1 hx]; exact ⟨h0, h255⟩
    · intro j u hu
      rw [List.map_append] at hu
      by_cases hj : j < k
      · rw [List.getElem?_append_left (by simpa [h1] using hj)] at hu
        exact h3 j u hu
      · rw [List.getElem?_append_right (by simp [h1]; omega)] at hu
        have hjk : j = k := by
          have := (List.getElem?_eq_some_iff.1 hu).1
          simp [h1] at this; omega
        subst hjk
        rw [Addr.add_lit, hz]
        simpa [h1] using hu
theorem wpList_append_code {w : World} {ops : Array Oper} {rest : List Oper} {o : Oper} {a : Act} {Q : Exit → Act → World → Prop} (hgd : o.guard = none) (s x : Operand)
    (ho : o.op = .call { callee := .builtin .append, args := #[s, x], argTypes := #[22, 22] })
    (i : TypeInfo) (hi : Tryd.prog.info? 5 = some i) (hz0 : i.zero = some (.int .u8 0)) (hz1 : i.size = 1) (hz2 : i.bytes = 1)
    (v : Value) (b7 : Int) (h7 : 0 ≤ b7 ∧ b7 ≤ 255) (base : Nat) (hbase : base ≤ w.heap.size) (hs : a.eval s = v) (hown : w.ownsRow base 5 1 v 1 [.int .u8 b7])
    (B : Nat) (ac : Option Addr) (len cap : Nat) (hx : a.eval x = .slice ac len cap) (hc : CodeIn B w ac len) (hl : len ≤ 1048576)
    (h : ∀ ac' cap' w', CodeIn w'.heap.size w' ac' (1 + len) → w.grownBy w' v.ownBlock → wpList Tryd.prog ops Q rest (a.put o.dst (.slice ac' (1 + len) cap')) w') :
    wpList Tryd.prog ops Q (o :: rest) a w := by
  have key : ∀ ad (news : List Int), x = x → ac = some ad → news.length = len → (∀ z ∈ news, 0 ≤ z ∧ z ≤ 255) → (∀ j u, (news.map (Value.int .u8))[j]? = some u → w.cell? (ad.add j) = some u) → wpList Tryd.prog ops Q (o :: rest) a w := by
    intro ad news _ had hnl hnz hnc
    subst had
    refine wpList_append_own _ hgd s x 22 ho base 5 i (.int .u8 0) 1 1 Tryd.underlying22 hi hz0 hz1 hz2 rfl (by decide) v 1 _ hs hown ad len cap (news.map (Value.int .u8)) hx (by simp [hnl]) hnc (by intro u hu; obtain ⟨_, _, rfl⟩ := List.mem_map.1 hu; rfl) (by unfold maxLen; omega) (by omega) hbase ?_
    intro v' w' ho' hg' _
    obtain ⟨ac', cap', rfl, hc'⟩ := code_of_own (zs := b7 :: news) ho' (by omega) (by omega) (by
      intro z hz
      rcases List.mem_cons.1 hz with rfl | hz
      · exact h7
      · exact hnz z hz)
    exact h ac' cap' w' hc' hg'
  cases ac with
  | some ad =>
    rcases hc.2 with h0 | ⟨b, off, hao, _, hcells⟩
    · exact key ad [] rfl rfl (by simp [h0]) (by simp) (by simp)
    · obtain rfl := Option.some.inj hao
      obtain ⟨zs, h1, h2, h3⟩ := code_list (B := B) hcells
      exact key _ zs rfl rfl h1 h2 h3
  | none =>
    have h0 : len = 0 := by
      rcases hc.2 with h0 | ⟨b, off, hao, _, _⟩
      · exact h0
      · cases hao
    subst h0
    refine wpList_plain hgd fun K hK => ?_
    have hrun := run_append_none w o.type base i hi v 1 _ hown cap
    unfold Oper.wp
    simp only [execOp, ho, resolve, invoke, builtin, Sem.run_bind, Sem.run_pure, Result.andThen_ok, List.map_toArray, List.map_cons, List.map_nil, hs, hx, hrun]
    obtain ⟨ac', cap', hv, hc'⟩ := code_of_own (zs := [b7]) hown (by omega) (by omega) (by intro z hz; rw [List.mem_singleton.1 hz]; exact h7)
    have hh := h ac' cap' w hc' (World.grownBy.refl _ _)
    rw [← hv] at hh
    exact hK _ _ hh
end Go.Proofs.YticpflohhfokdaaDoor
