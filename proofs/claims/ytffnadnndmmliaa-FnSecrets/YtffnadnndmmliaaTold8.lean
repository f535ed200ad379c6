/- Chapter 6's terms that are told of others (the program's): toldHand, toldSideKey, toldDone. -/
import Derived.Test.YtffnadnndmmliaaTold7
namespace Go.Proofs.Ytffnadnndmmliaa
open Go.RowKit Go.Maps
set_option linter.unusedVariables false
/-- Terms that are told stay so. -/
theorem ToldIs.nx {L : Nat} {w w' : World} {t : Tl} {v : Value} (hb : Below w.heap.size w w') (h : ToldIs L w.heap.size w t v) : ToldIs L w'.heap.size w' t v := ToldIs.base hb.size t (ToldIs.later hb t h)
set_option maxHeartbeats 1600000 in
set_option maxRecDepth 20000 in
theorem toldSideKey_any {L : Nat} (x : Tl) (v : Value) (n : Int) (w : World) (hL : L ≤ w.heap.size) (hx : ToldIs L w.heap.size w x v)  :
    Calls Try.prog 114 #[v, .int .i64 n] w (ToldP L (.two 4 x (.atom n)) w) := by
  have HB0 : Hid (Below w.heap.size w w ∧ L ≤ w.heap.size) := ⟨Below.refl _ _, hL⟩
  obtain ⟨Fx, cx, rfl⟩ := hx.fn
  have Tx : Hid (ToldIs L w.heap.size w x (.func (.func Fx) #[] cx)) := hx
  clear hL hx
  go_enter Try.func114, Try.ntmps114
  go_wp2_with fail
  refine Calls.mono (toldAtom_any (L := L) n w HB0.out.2) ?_
  rintro e w1 ⟨v1, rfl, t1, b1⟩
  have HB1 : Hid (Below w.heap.size w w1 ∧ L ≤ w1.heap.size) := ⟨HB0.out.1.trans (b1.mono HB0.out.1.size), Nat.le_trans HB0.out.2 b1.size⟩
  replace Tx : Hid (ToldIs L w1.heap.size w1 _ (.func (.func Fx) #[] cx)) := ToldIs.nx b1 Tx.out
  obtain ⟨Fa, ca, rfl⟩ := t1.fn
  have Ta : Hid (ToldIs L w1.heap.size w1 _ (.func (.func Fa) #[] ca)) := t1
  clear t1 b1 HB0
  go_wp2_with fail
  refine Calls.mono (toldKdf_any (L := L) _ _ _ _ w1 HB1.out.2 Tx.out Ta.out) ?_
  rintro e w2 ⟨v2, rfl, t2, b2⟩
  have HE : Hid (ToldP L (.two 4 x (.atom n)) w (.returned v2) w2) := ⟨v2, rfl, t2, HB1.out.1.trans (b2.mono HB1.out.1.size)⟩
  clear t2 b2
  go_wp2
  go_ret
  exact HE.out
set_option maxHeartbeats 1600000 in
set_option maxRecDepth 20000 in
theorem toldDone_any {L : Nat} (x : Tl) (v : Value) (n : Int) (y : Tl) (u : Value) (w : World) (hL : L ≤ w.heap.size) (hx : ToldIs L w.heap.size w x v) (hy : ToldIs L w.heap.size w y u) {m : Int} (hm : IntKind.i64.wrap (10 + n) = m) :
    Calls Try.prog 119 #[v, .int .i64 n, u] w (ToldP L (.two 9 (.two 4 x (.atom m)) (.hash y)) w) := by
  have HB0 : Hid (Below w.heap.size w w ∧ L ≤ w.heap.size) := ⟨Below.refl _ _, hL⟩
  obtain ⟨Fx, cx, rfl⟩ := hx.fn
  have Tx : Hid (ToldIs L w.heap.size w x (.func (.func Fx) #[] cx)) := hx
  obtain ⟨Fy, cy, rfl⟩ := hy.fn
  have Ty : Hid (ToldIs L w.heap.size w y (.func (.func Fy) #[] cy)) := hy
  clear hL hx hy
  go_enter Try.func119, Try.ntmps119
  go_wp2_with fail
  refine Calls.mono (toldAtom_any (L := L) m w HB0.out.2) ?_
  rintro e w1 ⟨v1, rfl, t1, b1⟩
  have HB1 : Hid (Below w.heap.size w w1 ∧ L ≤ w1.heap.size) := ⟨HB0.out.1.trans (b1.mono HB0.out.1.size), Nat.le_trans HB0.out.2 b1.size⟩
  replace Tx : Hid (ToldIs L w1.heap.size w1 _ (.func (.func Fx) #[] cx)) := ToldIs.nx b1 Tx.out
  replace Ty : Hid (ToldIs L w1.heap.size w1 _ (.func (.func Fy) #[] cy)) := ToldIs.nx b1 Ty.out
  obtain ⟨Fa, ca, rfl⟩ := t1.fn
  have Ta : Hid (ToldIs L w1.heap.size w1 _ (.func (.func Fa) #[] ca)) := t1
  clear t1 b1 HB0
  go_wp2_with fail
  refine Calls.mono (toldKdf_any (L := L) _ _ _ _ w1 HB1.out.2 Tx.out Ta.out) ?_
  rintro e w2 ⟨v2, rfl, t2, b2⟩
  have HB2 : Hid (Below w.heap.size w w2 ∧ L ≤ w2.heap.size) := ⟨HB1.out.1.trans (b2.mono HB1.out.1.size), Nat.le_trans HB1.out.2 b2.size⟩
  replace Tx : Hid (ToldIs L w2.heap.size w2 _ (.func (.func Fx) #[] cx)) := ToldIs.nx b2 Tx.out
  replace Ty : Hid (ToldIs L w2.heap.size w2 _ (.func (.func Fy) #[] cy)) := ToldIs.nx b2 Ty.out
  replace Ta : Hid (ToldIs L w2.heap.size w2 _ (.func (.func Fa) #[] ca)) := ToldIs.nx b2 Ta.out
  obtain ⟨Fk, ck, rfl⟩ := t2.fn
  have Tk : Hid (ToldIs L w2.heap.size w2 _ (.func (.func Fk) #[] ck)) := t2
  clear t2 b2 HB1
  go_wp2_with fail
  refine Calls.mono (toldHash_any (L := L) _ _ w2 HB2.out.2 Ty.out) ?_
  rintro e w3 ⟨v3, rfl, t3, b3⟩
  have HB3 : Hid (Below w.heap.size w w3 ∧ L ≤ w3.heap.size) := ⟨HB2.out.1.trans (b3.mono HB2.out.1.size), Nat.le_trans HB2.out.2 b3.size⟩
  replace Tx : Hid (ToldIs L w3.heap.size w3 _ (.func (.func Fx) #[] cx)) := ToldIs.nx b3 Tx.out
  replace Ty : Hid (ToldIs L w3.heap.size w3 _ (.func (.func Fy) #[] cy)) := ToldIs.nx b3 Ty.out
  replace Ta : Hid (ToldIs L w3.heap.size w3 _ (.func (.func Fa) #[] ca)) := ToldIs.nx b3 Ta.out
  replace Tk : Hid (ToldIs L w3.heap.size w3 _ (.func (.func Fk) #[] ck)) := ToldIs.nx b3 Tk.out
  obtain ⟨Fh, ch, rfl⟩ := t3.fn
  have Th : Hid (ToldIs L w3.heap.size w3 _ (.func (.func Fh) #[] ch)) := t3
  clear t3 b3 HB2
  go_wp2_with fail
  refine Calls.mono (toldTwo_any (L := L) 9 _ _ _ _ w3 HB3.out.2 Tk.out Th.out) ?_
  rintro e w4 ⟨v4, rfl, t4, b4⟩
  have HE : Hid (ToldP L (.two 9 (.two 4 x (.atom m)) (.hash y)) w (.returned v4) w4) := ⟨v4, rfl, t4, HB3.out.1.trans (b4.mono HB3.out.1.size)⟩
  clear t4 b4
  go_wp2
  go_ret
  exact HE.out
set_option maxHeartbeats 1600000 in
set_option maxRecDepth 20000 in
theorem toldHand_any {L : Nat} (x : Tl) (v : Value) (y : Tl) (u : Value) (z : Tl) (t : Value) (w : World) (hL : L ≤ w.heap.size) (hx : ToldIs L w.heap.size w x v) (hy : ToldIs L w.heap.size w y u) (hz : ToldIs L w.heap.size w z t)  :
    Calls Try.prog 120 #[v, u, t] w (ToldP L (.two 4 (.two 2 x y) (.hash z)) w) := by
  have HB0 : Hid (Below w.heap.size w w ∧ L ≤ w.heap.size) := ⟨Below.refl _ _, hL⟩
  obtain ⟨Fx, cx, rfl⟩ := hx.fn
  have Tx : Hid (ToldIs L w.heap.size w x (.func (.func Fx) #[] cx)) := hx
  obtain ⟨Fy, cy, rfl⟩ := hy.fn
  have Ty : Hid (ToldIs L w.heap.size w y (.func (.func Fy) #[] cy)) := hy
  obtain ⟨Fz, cz, rfl⟩ := hz.fn
  have Tz : Hid (ToldIs L w.heap.size w z (.func (.func Fz) #[] cz)) := hz
  clear hL hx hy hz
  go_enter Try.func120, Try.ntmps120
  go_wp2_with fail
  refine Calls.mono (toldTwo_any (L := L) 2 _ _ _ _ w HB0.out.2 Tx.out Ty.out) ?_
  rintro e w1 ⟨v1, rfl, t1, b1⟩
  have HB1 : Hid (Below w.heap.size w w1 ∧ L ≤ w1.heap.size) := ⟨HB0.out.1.trans (b1.mono HB0.out.1.size), Nat.le_trans HB0.out.2 b1.size⟩
  replace Tx : Hid (ToldIs L w1.heap.size w1 _ (.func (.func Fx) #[] cx)) := ToldIs.nx b1 Tx.out
  replace Ty : Hid (ToldIs L w1.heap.size w1 _ (.func (.func Fy) #[] cy)) := ToldIs.nx b1 Ty.out
  replace Tz : Hid (ToldIs L w1.heap.size w1 _ (.func (.func Fz) #[] cz)) := ToldIs.nx b1 Tz.out
  obtain ⟨Fp, cp, rfl⟩ := t1.fn
  have Tp : Hid (ToldIs L w1.heap.size w1 _ (.func (.func Fp) #[] cp)) := t1
  clear t1 b1 HB0
  go_wp2_with fail
  refine Calls.mono (toldHash_any (L := L) _ _ w1 HB1.out.2 Tz.out) ?_
  rintro e w2 ⟨v2, rfl, t2, b2⟩
  have HB2 : Hid (Below w.heap.size w w2 ∧ L ≤ w2.heap.size) := ⟨HB1.out.1.trans (b2.mono HB1.out.1.size), Nat.le_trans HB1.out.2 b2.size⟩
  replace Tx : Hid (ToldIs L w2.heap.size w2 _ (.func (.func Fx) #[] cx)) := ToldIs.nx b2 Tx.out
  replace Ty : Hid (ToldIs L w2.heap.size w2 _ (.func (.func Fy) #[] cy)) := ToldIs.nx b2 Ty.out
  replace Tz : Hid (ToldIs L w2.heap.size w2 _ (.func (.func Fz) #[] cz)) := ToldIs.nx b2 Tz.out
  replace Tp : Hid (ToldIs L w2.heap.size w2 _ (.func (.func Fp) #[] cp)) := ToldIs.nx b2 Tp.out
  obtain ⟨Fh, ch, rfl⟩ := t2.fn
  have Th : Hid (ToldIs L w2.heap.size w2 _ (.func (.func Fh) #[] ch)) := t2
  clear t2 b2 HB1
  go_wp2_with fail
  refine Calls.mono (toldKdf_any (L := L) _ _ _ _ w2 HB2.out.2 Tp.out Th.out) ?_
  rintro e w3 ⟨v3, rfl, t3, b3⟩
  have HE : Hid (ToldP L (.two 4 (.two 2 x y) (.hash z)) w (.returned v3) w3) := ⟨v3, rfl, t3, HB2.out.1.trans (b3.mono HB2.out.1.size)⟩
  clear t3 b3
  go_wp2
  go_ret
  exact HE.out
end Go.Proofs.Ytffnadnndmmliaa
