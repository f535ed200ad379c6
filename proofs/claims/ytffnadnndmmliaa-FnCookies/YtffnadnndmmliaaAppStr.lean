/- Appending a text's bytes to a row of the call's own, with the place where the new row lies. -/
import Derived.Test.YtffnadnndmmliaaPlain
import Derived.WalkKit
import Derived.WalkLawsBesides
import Derived.OwnWalk
import Derived.Lib.AppendStr
import Derived.Test.YtffnadnndmmliaaImplSize
import Derived.WalkSpells
namespace Go.Proofs.Ytffnadnndmmliaa
open Go.RowKit

/-- The new value lies in the old one's own block, or in a new one. -/
def Lies (w : World) (v v' : Value) : Prop := ∀ g, v'.ownBlock = some g → v.ownBlock = some g ∨ w.heap.size ≤ g
theorem append_string_at {P : Program} (w : World) (base : Nat) (t u ty e : TypeId) (i : TypeInfo) (ht : P.underlying t = some (.slice e)) (hu : P.underlying u = some .string) (hi : P.info? e = some i) (hz : i.zero = some (.int .u8 0)) (hsize : i.size = 1) (hby : i.bytes = 1)
    (v : Value) (n : Nat) (xs : List Value) (hown : w.ownsRow base e 1 v n xs) (s : ByteArray) (h63 : n + s.size ≤ maxLen) (hbytes : n + s.size ≤ 140737488355328) (hbase : base ≤ w.heap.size) :
    ∃ v' w', (Builtin.append_ #[t, u] ty #[v, .string s]).run P w = .ok v' w' ∧ w'.ownsRow base e 1 v' (n + s.size) (xs ++ Lib.strCells s) ∧ w.grownBy w' v.ownBlock ∧ Lies w v v' := by
  obtain ⟨v', w', hr, h1, h2, h3⟩ := Lib.run_append_own_string (P := P) w base t u ty e i ht hu hi hz hsize hby v n xs hown s h63 hbytes hbase
  refine ⟨v', w', hr, h1, h2, fun g hg => ?_⟩
  have hsmall : n + s.size ≤ 9223372036854775807 := by simp only [maxLen] at h63; omega
  have hxl : xs.length = n := by simpa using hown.1
  rcases hown.2 with ⟨rfl, rfl⟩ | ⟨g0, cap, cur, rfl, hbg, hgc, hnc, hcm, hcs, htake⟩
  · by_cases hm : s.size = 0
    · rw [h3.2 ⟨rfl, hm⟩] at hg; cases hg
    · have hr2 := run_append_nil_string (P := P) w t u ty e i (.int .u8 0) ht hu hi hz s (by omega) (by omega) (by rw [hby]; omega)
      rw [hr] at hr2
      simp only [Result.ok.injEq] at hr2
      rw [hr2.1] at hg
      simp [Value.ownBlock] at hg
      exact .inr (by omega)
  · by_cases hroom : n + s.size ≤ cap
    · have hr2 := Lib.run_append_room_string (P := P) w t u ty e i ht hu hi hsize g0 n cap cur hgc s hroom (by simp at hcs; omega)
      rw [hr] at hr2
      simp only [Result.ok.injEq] at hr2
      rw [hr2.1] at hg
      exact .inl hg
    · have hr2 := Lib.run_append_grow_string (P := P) w t u ty e i (.int .u8 0) ht hu hi hz ⟨g0, 0, none⟩ n cap xs (by rw [hsize]; simpa using hxl) (hown.cells (g := g0) rfl) s (by omega) (by omega) (by rw [hby]; exact growslice_fits (by omega) (by omega))
      rw [hr] at hr2
      simp only [Result.ok.injEq] at hr2
      rw [hr2.1] at hg
      simp [Value.ownBlock] at hg
      exact .inr (by omega)
theorem wpList_append_string_at {P : Program} {ops : Array Oper} {rest : List Oper} {o : Oper} {a : Act} {Q : Exit → Act → World → Prop} {w : World} (hgd : o.guard = none) (sl x : Operand) (t u : TypeId)
    (ho : o.op = .call { callee := .builtin .append, args := #[sl, x], argTypes := #[t, u] })
    (base : Nat) (e : TypeId) (i : TypeInfo) (ht : P.underlying t = some (.slice e)) (hu : P.underlying u = some .string) (hi : P.info? e = some i) (hz : i.zero = some (.int .u8 0)) (hsize : i.size = 1) (hby : i.bytes = 1)
    (v : Value) (n : Nat) (xs : List Value) (hs : a.eval sl = v) (hown : w.ownsRow base e 1 v n xs) (s : ByteArray) (hx : a.eval x = .string s) (h63 : n + s.size ≤ maxLen) (hbytes : n + s.size ≤ 140737488355328) (hbase : base ≤ w.heap.size)
    (h : ∀ v' w', w'.ownsRow base e 1 v' (n + s.size) (xs ++ Lib.strCells s) → w.grownBy w' v.ownBlock → Lies w v v' → wpList P ops Q rest (a.put o.dst v') w') : wpList P ops Q (o :: rest) a w := by
  refine wpList_plain hgd fun K hK => ?_
  obtain ⟨v', w', hr, h2, h3, h4⟩ := append_string_at (P := P) w base t u o.type e i ht hu hi hz hsize hby v n xs hown s h63 hbytes hbase
  unfold Oper.wp
  simp [execOp, ho, resolve, invoke, builtin, hs, hx, hr, Result.andThen]
  exact hK _ _ (h v' w' h2 h3 h4)
/-- Steps that each write into the row at hand alone, one behind the other. -/
theorem gb_then {w w1 w2 : World} {v v1 : Value} (h1 : w.grownBy w1 v.ownBlock) (hl : Lies w v v1) (h2 : w1.grownBy w2 v1.ownBlock) : w.grownBy w2 v.ownBlock := by
  refine ⟨h2.os.trans h1.os, h2.tape.trans h1.tape, h2.output.trans h1.output, Nat.le_trans h1.size h2.size, fun k hk hne => ?_⟩
  rw [h2.block k (Nat.lt_of_lt_of_le hk h1.size) (fun e => ?_), h1.block k hk hne]
  rcases hl k e.symm with h | h
  · exact hne h.symm
  · omega
theorem gb_more {w w1 w2 : World} {r : Option Nat} (h1 : w.grownBy w1 r) (h2 : Below w1.heap.size w1 w2) : w.grownBy w2 r :=
  ⟨h2.os.trans h1.os, h2.tape.trans h1.tape, h2.output.trans h1.output, Nat.le_trans h1.size h2.size, fun k hk hne => (h2.block k (Nat.lt_of_lt_of_le hk h1.size)).trans (h1.block k hk hne)⟩
theorem gb_of {w w1 : World} (h : Below w.heap.size w w1) (r : Option Nat) : w.grownBy w1 r := ⟨h.os, h.tape, h.output, h.size, fun k hk _ => h.block k hk⟩
theorem Lies.next {w w1 : World} {v v1 v2 : Value} (h1 : Lies w v v1) (hs : w.heap.size ≤ w1.heap.size) (h2 : Lies w1 v1 v2) : Lies w v v2 := fun g hg => by
  rcases h2 g hg with h | h
  · exact h1 g h
  · exact .inr (Nat.le_trans hs h)
theorem Lies.back {w w1 : World} {v v1 : Value} (h : Lies w1 v v1) (hs : w.heap.size ≤ w1.heap.size) : Lies w v v1 := fun g hg => (h g hg).imp id (fun h => Nat.le_trans hs h)
theorem cell_gb {w w' : World} {r : Option Nat} {b j : Nat} {u : Value} (hg : w.grownBy w' r) (hb : b < w.heap.size) (hne : r ≠ some b) (h : w.cell? ⟨b, j, none⟩ = some u) : w'.cell? ⟨b, j, none⟩ = some u := by
  rw [World.cell?_of_block (w := w) (hg.block b hb (fun e => hne e.symm))]; exact h
end Go.Proofs.Ytffnadnndmmliaa

namespace Go.Proofs.Ytffnadnndmmliaa
open Go.RowKit
set_option linter.unusedVariables false

theorem strCells_nums {xs : List Int} (h : ∀ x ∈ xs, 0 ≤ x ∧ x ≤ 255) : Lib.strCells (strOfNums xs) = xs.map (Value.int .u8) := by
  unfold Lib.strCells
  rw [strOfNums_data, List.map_map]
  apply List.map_congr_left
  intro x hx
  have := h x hx
  simp only [Function.comp, UInt8.toNat_ofNat']
  congr 1
  omega
theorem appendVar_any (base : Nat) (v : Value) (xs : List Int) (n : Nat) (w : World) (hn : n ≤ 1000000000) (hx : xs.length ≤ 100000) (hb : base ≤ w.heap.size) (hown : w.ownsRow base 5 1 v xs.length (xs.map (Value.int .u8))) :
    Calls Try.prog 156 #[v, .int .i64 (n : Int)] w fun e w' => ∃ v', e = .returned v' ∧ w'.ownsRow base 5 1 v' (xs ++ vb n).length ((xs ++ vb n).map (Value.int .u8)) ∧ w.grownBy w' v.ownBlock ∧ Lies w v v' := by
  obtain ⟨i0, hi, hz0, hz1, hz2⟩ := info_parts Try.info5
  have hlen := vb_len10 n (by omega)
  have HR : Hid _ := vb_range n
  have HSZ : Hid ((strOfNums (vb n)).size = (vb n).length) := strOfNums_size _
  go_enter Try.func156, Try.ntmps156
  go_wp2_with fail
  refine (implVar_yes n _ hn).mono ?_
  rintro e w1 ⟨rfl, hb1⟩
  have ho1 := own_next hown hb1
  have hs1 := hb1.size
  go_wp2_with (at_builtin; refine wpList_append_string_at rfl _ _ 35 9 rfl base 5 i0 Try.underlying35 Try.underlying9 hi hz0 hz1 hz2 _ _ _ rfl ho1 _ rfl ?c1 ?c2 ?c3 ?_)
  case c1 => unfold maxLen; rw [HSZ.out]; omega
  case c2 => rw [HSZ.out]; omega
  case c3 => omega
  intro v' w2 ho2 hg2 hl2
  rw [strCells_nums HR.out, HSZ.out] at ho2
  have HO : Hid (w2.ownsRow base 5 1 v' (xs ++ vb n).length ((xs ++ vb n).map (Value.int .u8))) := own_snoc ho2
  have HB : Hid (w.grownBy w2 v.ownBlock ∧ Lies w v v') := ⟨gb_then (gb_of hb1 _) (fun g hg => .inl hg) hg2, hl2.back hs1⟩
  clear ho2 hg2 hl2 ho1 hb1 hown
  go_wp2
  go_ret
  exact ⟨_, rfl, HO.out, HB.out.1, HB.out.2⟩

theorem right_kind {x : Nd} {k : Int} (h : nodeB x k = true) : 1 ≤ x.k ∧ x.k ≤ 9 := by
  rcases nodeB_true h with h | h | h <;> omega
theorem szv_kids {ns : List Nd} {k : Nat} (h : Good ns k) (hz : szv ns k ≤ 2000) : szv ns k = szSum ns (ns.getD k Nd.zero) := by
  have e := good_sz h.2
  rw [e] at hz ⊢
  split at hz
  · omega
  · rw [if_neg (by assumption)]
/-- What appendTerm answers. -/
def AppT (ns : List Nd) (k : Nat) : Prop := ∀ (base : Nat) (a : Option Addr) (cap : Nat) (v : Value) (xs : List Int) (w : World), (xs.length : Int) + 4 * szv ns k ≤ 100000 → base ≤ w.heap.size → RowN base w a ns → w.ownsRow base 5 1 v xs.length (xs.map (Value.int .u8)) →
    Calls Try.prog 90 #[v, .slice a ns.length cap, .int .i64 (k : Int)] w fun e w' => ∃ v', e = .returned v' ∧ w'.ownsRow base 5 1 v' (xs ++ tx ns k).length ((xs ++ tx ns k).map (Value.int .u8)) ∧ w.grownBy w' v.ownBlock ∧ Lies w v v'
set_option maxHeartbeats 1600000 in
set_option maxRecDepth 20000 in
theorem appendTerm_atom (ns : List Nd) (k : Nat) (hl : ns.length ≤ 1048576) (hg : Good ns k) (hz : szv ns k ≤ 2000) (hk1 : (ns.getD k Nd.zero).k = 1) : AppT ns k := by
  intro base a cap v xs w hb hbw hr hown
  have hkl := hg.1
  have HT : Hid _ := tx_atom hk1
  have hr0 := szv_range ns k hg.2
  rcases nodeB_true (hg.2 k (Nat.le_refl _)) with ⟨_, hn0, hn1, _⟩ | ⟨h, _⟩ | ⟨h, _⟩
  rotate_left
  · omega
  · omega
  obtain ⟨b, off, rfl⟩ := hr.addr hkl
  obtain ⟨hbb, c0, c1, c2, c3⟩ := hr.at (Below.refl _ _) hkl
  have hi0 : (0 : Int) ≤ (k : Int) := by omega
  have hi1 : (k : Int) < (ns.length : Int) := by omega
  generalize ns.getD k Nd.zero = y at c0 c1 c2 c3 HT hk1 hn0 hn1
  obtain ⟨yk, yn, ya, yb⟩ := y
  dsimp only at c0 c1 c2 c3 hk1 hn0 hn1 HT
  subst hk1
  obtain ⟨n, rfl⟩ : ∃ n : Nat, yn = (n : Int) := ⟨yn.toNat, by omega⟩
  have HXL : Hid ((xs ++ vb 1).length = xs.length + 1) := by show _ = _; rw [vb_one]; simp
  have hxl : xs.length ≤ 99996 := by omega
  have hn9 : n ≤ 1000000000 := by omega
  have ha := as_atomTerm_atomTerm
  clear hr hb hr0 hg hz
  go_enter Try.func90, Try.ntmps90
  go_wp2_with fail
  refine (appendVar_any base v xs 1 _ (by omega) (by omega) hbw hown).mono ?_
  rintro e w1 ⟨v1, rfl, ho1, hg1, hl1⟩
  have hb1 : Below base w w1 := (Below.refl _ _).grown hg1 hbw (fun k hk => (hown.lt k hk).1)
  have d0 := (hb1.cell (p := ⟨b, off + k * 4, none⟩) hbb).trans c0
  have d1 := (hb1.cell (p := ⟨b, off + k * 4 + 1, none⟩) hbb).trans c1
  have d2 := (hb1.cell (p := ⟨b, off + k * 4 + 2, none⟩) hbb).trans c2
  have d3 := (hb1.cell (p := ⟨b, off + k * 4 + 3, none⟩) hbb).trans c3
  have hs1 := hb1.size
  clear c0 c1 c2 c3 hown
  go_wp2_with fail
  refine (termOf_atom 1 n ya yb _ rfl).mono ?_
  rintro e w2 ⟨rfl, hb2⟩
  have ho2 := own_next ho1 hb2
  have HO2 : Hid (World.ownsRow _ _ _ _ _ _ _) := ho2.alloc (.cells #[.int .i64 (n : Int)] 154)
  have hG2 := gb_more hg1 hb2
  have hs2 := hb2.size
  clear ho1 ho2 hb1 hb2 hg1 d0 d1 d2 d3
  go_wp2_with fail
  refine (appendVar_any base v1 (xs ++ vb 1) n _ hn9 (by rw [HXL.out]; omega) (by simp; omega) HO2.out).mono ?_
  rintro e w3 ⟨v3, rfl, ho3, hg3, hl3⟩
  have HO3 : Hid (w3.ownsRow base 5 1 v3 (xs ++ tx ns k).length ((xs ++ tx ns k).map (Value.int .u8))) := by
    show World.ownsRow _ _ _ _ _ _ _
    rw [HT.out, Int.toNat_natCast, ← List.append_assoc]; exact ho3
  have HG3 : Hid (w.grownBy w3 v.ownBlock ∧ Lies w v v3) := ⟨gb_then (gb_more hG2 ((Below.refl _ _).alloc (Nat.le_refl _) _)) hl1 hg3, hl1.next (by simp; omega) hl3⟩
  clear ho3 hg3 hl3 HO2 hG2 hl1
  go_wp2
  go_ret
  exact ⟨_, rfl, HO3.out, HG3.out.1, HG3.out.2⟩
end Go.Proofs.Ytffnadnndmmliaa
