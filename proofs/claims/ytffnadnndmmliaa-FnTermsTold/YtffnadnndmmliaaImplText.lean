/- The contracts of chapter 3's TermText, the program's: appendVar, appendTerm, TermText. -/
import Derived.Test.YtffnadnndmmliaaImplSize
import Derived.Test.YtffnadnndmmliaaVarW
import Derived.Test.YtffnadnndmmliaaAppStr
import Derived.WalkKit
import Derived.WalkLawsBesides
import Derived.WalkSpells
import Derived.OwnWalk
import Derived.Lib.AppendStr
namespace Go.Proofs.Ytffnadnndmmliaa
open Go.RowKit
set_option linter.unusedVariables false

theorem strCells_nums {xs : List Int} (h : ∀ x ∈ xs, 0 ≤ x ∧ x ≤ 255) : Lib.strCells (strOfNums xs) = xs.map (Value.int .u8) := by
  unfold Lib.strCells
  rw [strOfNums_data, List.map_map]
  apply List.map_congr_left
  intro x hx
  have := h x hx
  simp only [Function.comp, UInt8.toNat_ofNat']
  congr 1
  omega
theorem appendVar_any (base : Nat) (v : Value) (xs : List Int) (n : Nat) (w : World) (hn : n ≤ 1000000000) (hx : xs.length ≤ 100000) (hb : base ≤ w.heap.size) (hown : w.ownsRow base 5 1 v xs.length (xs.map (Value.int .u8))) :
    Calls Try.prog 156 #[v, .int .i64 (n : Int)] w fun e w' => ∃ v', e = .returned v' ∧ w'.ownsRow base 5 1 v' (xs ++ vb n).length ((xs ++ vb n).map (Value.int .u8)) ∧ w.grownBy w' v.ownBlock ∧ Lies w v v' := by
  obtain ⟨i0, hi, hz0, hz1, hz2⟩ := info_parts Try.info5
  have hlen := vb_len10 n (by omega)
  have HR : Hid _ := vb_range n
  have HSZ : Hid ((strOfNums (vb n)).size = (vb n).length) := strOfNums_size _
  go_enter Try.func156, Try.ntmps156
  go_wp2_with fail
  refine (implVar_yes n _ hn).mono ?_
  rintro e w1 ⟨rfl, hb1⟩
  have ho1 := own_next hown hb1
  have hs1 := hb1.size
  go_wp2_with (at_builtin; refine wpList_append_string_at rfl _ _ 35 9 rfl base 5 i0 Try.underlying35 Try.underlying9 hi hz0 hz1 hz2 _ _ _ rfl ho1 _ rfl ?c1 ?c2 ?c3 ?_)
  case c1 => unfold maxLen; rw [HSZ.out]; omega
  case c2 => rw [HSZ.out]; omega
  case c3 => omega
  intro v' w2 ho2 hg2 hl2
  rw [strCells_nums HR.out, HSZ.out] at ho2
  have HO : Hid (w2.ownsRow base 5 1 v' (xs ++ vb n).length ((xs ++ vb n).map (Value.int .u8))) := own_snoc ho2
  have HB : Hid (w.grownBy w2 v.ownBlock ∧ Lies w v v') := ⟨gb_then (gb_of hb1 _) (fun g hg => .inl hg) hg2, hl2.back hs1⟩
  clear ho2 hg2 hl2 ho1 hb1 hown
  go_wp2
  go_ret
  exact ⟨_, rfl, HO.out, HB.out.1, HB.out.2⟩

theorem right_kind {x : Nd} {k : Int} (h : nodeB x k = true) : 1 ≤ x.k ∧ x.k ≤ 9 := by
  rcases nodeB_true h with h | h | h <;> omega
theorem szv_kids {ns : List Nd} {k : Nat} (h : Good ns k) (hz : szv ns k ≤ 2000) : szv ns k = szSum ns (ns.getD k Nd.zero) := by
  have e := good_sz h.2
  rw [e] at hz ⊢
  split at hz
  · omega
  · rw [if_neg (by assumption)]
/-- What appendTerm answers. -/
def AppT (ns : List Nd) (k : Nat) : Prop := ∀ (base : Nat) (a : Option Addr) (cap : Nat) (v : Value) (xs : List Int) (w : World), (xs.length : Int) + 4 * szv ns k ≤ 100000 → base ≤ w.heap.size → RowN base w a ns → w.ownsRow base 5 1 v xs.length (xs.map (Value.int .u8)) →
    Calls Try.prog 90 #[v, .slice a ns.length cap, .int .i64 (k : Int)] w fun e w' => ∃ v', e = .returned v' ∧ w'.ownsRow base 5 1 v' (xs ++ tx ns k).length ((xs ++ tx ns k).map (Value.int .u8)) ∧ w.grownBy w' v.ownBlock ∧ Lies w v v'
set_option maxHeartbeats 1600000 in
set_option maxRecDepth 20000 in
theorem appendTerm_atom (ns : List Nd) (k : Nat) (hl : ns.length ≤ 1048576) (hg : Good ns k) (hz : szv ns k ≤ 2000) (hk1 : (ns.getD k Nd.zero).k = 1) : AppT ns k := by
  intro base a cap v xs w hb hbw hr hown
  have hkl := hg.1
  have HT : Hid _ := tx_atom hk1
  have hr0 := szv_range ns k hg.2
  rcases nodeB_true (hg.2 k (Nat.le_refl _)) with ⟨_, hn0, hn1, _⟩ | ⟨h, _⟩ | ⟨h, _⟩
  rotate_left
  · omega
  · omega
  obtain ⟨b, off, rfl⟩ := hr.addr hkl
  obtain ⟨hbb, c0, c1, c2, c3⟩ := hr.at (Below.refl _ _) hkl
  have hi0 : (0 : Int) ≤ (k : Int) := by omega
  have hi1 : (k : Int) < (ns.length : Int) := by omega
  generalize ns.getD k Nd.zero = y at c0 c1 c2 c3 HT hk1 hn0 hn1
  obtain ⟨yk, yn, ya, yb⟩ := y
  dsimp only at c0 c1 c2 c3 hk1 hn0 hn1 HT
  subst hk1
  obtain ⟨n, rfl⟩ : ∃ n : Nat, yn = (n : Int) := ⟨yn.toNat, by omega⟩
  have HXL : Hid ((xs ++ vb 1).length = xs.length + 1) := by show _ = _; rw [vb_one]; simp
  have hxl : xs.length ≤ 99996 := by omega
  have hn9 : n ≤ 1000000000 := by omega
  have ha := as_atomTerm_atomTerm
  clear hr hb hr0 hg hz
  go_enter Try.func90, Try.ntmps90
  go_wp2_with fail
  refine (appendVar_any base v xs 1 _ (by omega) (by omega) hbw hown).mono ?_
  rintro e w1 ⟨v1, rfl, ho1, hg1, hl1⟩
  have hb1 : Below base w w1 := (Below.refl _ _).grown hg1 hbw (fun k hk => (hown.lt k hk).1)
  have d0 := (hb1.cell (p := ⟨b, off + k * 4, none⟩) hbb).trans c0
  have d1 := (hb1.cell (p := ⟨b, off + k * 4 + 1, none⟩) hbb).trans c1
  have d2 := (hb1.cell (p := ⟨b, off + k * 4 + 2, none⟩) hbb).trans c2
  have d3 := (hb1.cell (p := ⟨b, off + k * 4 + 3, none⟩) hbb).trans c3
  have hs1 := hb1.size
  clear c0 c1 c2 c3 hown
  go_wp2_with fail
  refine (termOf_atom 1 n ya yb _ rfl).mono ?_
  rintro e w2 ⟨rfl, hb2⟩
  have ho2 := own_next ho1 hb2
  have HO2 : Hid (World.ownsRow _ _ _ _ _ _ _) := ho2.alloc (.cells #[.int .i64 (n : Int)] 154)
  have hG2 := gb_more hg1 hb2
  have hs2 := hb2.size
  clear ho1 ho2 hb1 hb2 hg1 d0 d1 d2 d3
  go_wp2_with fail
  refine (appendVar_any base v1 (xs ++ vb 1) n _ hn9 (by rw [HXL.out]; omega) (by simp; omega) HO2.out).mono ?_
  rintro e w3 ⟨v3, rfl, ho3, hg3, hl3⟩
  have HO3 : Hid (w3.ownsRow base 5 1 v3 (xs ++ tx ns k).length ((xs ++ tx ns k).map (Value.int .u8))) := by
    show World.ownsRow _ _ _ _ _ _ _
    rw [HT.out, Int.toNat_natCast, ← List.append_assoc]; exact ho3
  have HG3 : Hid (w.grownBy w3 v.ownBlock ∧ Lies w v v3) := ⟨gb_then (gb_more hG2 ((Below.refl _ _).alloc (Nat.le_refl _) _)) hl1 hg3, hl1.next (by simp; omega) hl3⟩
  clear ho3 hg3 hl3 HO2 hG2 hl1
  go_wp2
  go_ret
  exact ⟨_, rfl, HO3.out, HG3.out.1, HG3.out.2⟩
end Go.Proofs.Ytffnadnndmmliaa
