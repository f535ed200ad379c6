/- The drawing functions of chapter 3's laws, the specification's: l03Pair, DrawTermText, DrawArenaOk. -/
import Derived.Test.YtlecpjgeaigjkaaDrawAny
import Derived.Test.YtlecpjgeaigjkaaCodeW
import Derived.Test.YtlecpjgeaigjkaaRegionK
import Derived.WalkKit
import Derived.WalkLawsBesides
import Derived.WalkSpells
import Derived.Laws.Rows
import Derived.Laws.OwnMore
import Derived.Laws.ResultCell
import Derived.BigRegion
import Derived.Deep.RegionLaw
import Derived.OneCell
import Derived.Test.YtlecpjgeaigjkaaLawInts
import Derived.OwnWalk
import Derived.Test.YtlecpjgeaigjkaaHello11
import Derived.Test.YtlecpjgeaigjkaaListP
namespace Go.Proofs.Ytlecpjgeaigjkaa
open Go.RowKit
set_option linter.unusedVariables false

end Go.Proofs.Ytlecpjgeaigjkaa

namespace Go.Proofs.Ytlecpjgeaigjkaa
open Go.RowKit
set_option linter.unusedVariables false
theorem res_cell4 {P : Program} {fn : Func} {p u v x : Tmp} {ty : TypeId} (h : fn.results = #[.cell p ty, .tmp u, .tmp v, .tmp x]) (tmps : Array Value) (w : World) (g : Nat) (t : TypeId) (cs : Array Value) (fr : Nat × Nat) (d : TypeDesc)
    (hp : tmps.getD p undef = .pointer (some ⟨g, 0, none⟩)) (hg : w.heap[g]? = some (.cells cs t fr))
    (hu : P.underlying ty = some d) (hd : (match d with | .struct _ | .array _ _ => true | _ => false) = true) (hi : (P.info? ty).map (·.size) = some cs.size) :
    (results fn tmps).run P w = .ok (.tuple #[.agg cs, tmps.getD u undef, tmps.getD v undef, tmps.getD x undef]) w := by
  have hp' : tmps[p]?.getD undef = .pointer (some ⟨g, 0, none⟩) := by simpa using hp
  simp [results, h, hp', asAddr, run_loadVar_row w g t ty cs fr d hg hu hd hi]
end Go.Proofs.Ytlecpjgeaigjkaa

namespace Go.Proofs.Ytlecpjgeaigjkaa
open Go.RowKit
set_option linter.unusedVariables false
theorem own_held {B b e size n : Nat} {w w' : World} {v : Value} {xs : List Value} (h : w.ownsRow b e size v n xs) (hb : Below B w w') (hk : ∀ k, v.ownBlock = some k → k < B) : w'.ownsRow b e size v n xs := by
  refine ⟨h.1, ?_⟩
  rcases h.2 with h0 | ⟨g, cap, cur, e1, hg, hh, rest⟩
  · exact .inl h0
  · exact .inr ⟨g, cap, cur, e1, hg, (hb.block g (hk g (by rw [e1]; rfl))).trans hh, rest⟩
end Go.Proofs.Ytlecpjgeaigjkaa

namespace Go.Proofs.Ytlecpjgeaigjkaa
open Go.RowKit
set_option linter.unusedVariables false
theorem kd_in {kd : Nat} (h : kd < 8) : (70 : Int) ≤ 70 + (kd : Int) ∧ 70 + (kd : Int) ≤ 77 := by omega
set_option maxHeartbeats 3200000 in
set_option maxRecDepth 20000 in
theorem drawLet_any (a : Option Addr) (len cap : Nat) (w : World) (hc : CodeIn w.heap.size w a len) :
    Calls Try.prog 30 #[.slice a len cap] w fun e w' => ∃ v ns, ∃ (kd : Int) (u : Value) (xs : List Int), e = .returned (.tuple #[.agg #[v], .int .i64 kd, u]) ∧ 1 ≤ ns.length ∧ ns.length ≤ 14 ∧ (∀ y ∈ ns, y.Fits) ∧ 70 ≤ kd ∧ kd ≤ 77 ∧ xs.length ≤ 3 ∧ (∀ x ∈ xs, 0 ≤ x ∧ x ≤ 4) ∧ OwnN w.heap.size w' v ns ∧ OwnInt w.heap.size w' u xs ∧ Below w.heap.size w w' := by
  obtain ⟨i0, hi, hz0, hz1, hz2⟩ := info_parts infoIntS
  have hb0 : Below w.heap.size w (w.alloc (.cells #[.slice none 0 0] 30)) := (Below.refl _ _).alloc (Nat.le_refl _) _
  have hx0 := heap_alloc_new w (.cells #[.slice none 0 0] 30)
  have hc0 := codeIn_later hc hb0
  have hs0 : (w.alloc (.cells #[.slice none 0 0] 30)).heap.size = w.heap.size + 1 := by simp
  clear hc
  go_enter Try.func30, Try.ntmps30
  go_wp2_with fail
  generalize w.alloc (.cells #[.slice none 0 0] 30) = w0 at hb0 hx0 hc0 hs0 ⊢
  refine (new_any _ _ _ _ hc0).mono ?_
  rintro e w1 ⟨g, rfl, hc1, hb1⟩
  have hge := hc1.1
  have hgl1 := hc1.2.1
  have HB1 : Hid (Below w0.heap.size w0 w1) := hb1
  have hs1 := hb1.size
  clear hb1 hc0
  go_wp2_with fail
  refine (below_any w0.heap.size g 8 _ (by omega) (by omega) hc1).mono ?_
  rintro e w2 ⟨kd, rfl, hkd, hc2, hg⟩
  have HB2 : Hid (Below w0.heap.size w0 w2) := HB1.out.grown hg HB1.out.size (fun k hk => by cases hk; exact hge)
  have hs2 := hg.size
  clear hc1 hg HB1
  go_wp2_with fail
  refine (below_any w0.heap.size g 4 _ (by omega) (by omega) hc2).mono ?_
  rintro e w3 ⟨n, rfl, hn, hc3, hg⟩
  have HB3 : Hid (Below w0.heap.size w0 w3) := HB2.out.grown hg HB2.out.size (fun k hk => by cases hk; exact hge)
  have hs3 := hg.size
  clear hc2 hg HB2
  go_wp2_with fail
  refine (anyArena_any w0.heap.size g _ hc3).mono ?_
  rintro e w4 ⟨v3, ns, rfl, hn1, hn2, hfit, ho3, hc4, hg⟩
  have HB4 : Hid (Below w0.heap.size w0 w4) := HB3.out.grown hg HB3.out.size (fun k hk => by cases hk; exact hge)
  have hs4 := hg.size
  have HC4 : Hid (Cur w0.heap.size w4 g) := hc4
  have hgl4 : g < w4.heap.size := hc4.2.1
  clear hc3 hc4 hg HB3
  obtain ⟨a3, cap3, rfl, _, _⟩ := ho3.row
  have hbx : Below w4.heap.size w4 (w4.alloc (.cells #[.slice a3 ns.length cap3] 30)) := (Below.refl _ _).alloc (Nat.le_refl _) _
  have HAb : Hid ((w4.alloc (.cells #[.slice a3 ns.length cap3] 30)).heap[w4.heap.size]? = some (.cells #[.slice a3 ns.length cap3] 30 (0, 0))) := heap_alloc_new w4 _
  have HOA : Hid (OwnN w3.heap.size (w4.alloc (.cells #[.slice a3 ns.length cap3] 30)) (.slice a3 ns.length cap3) ns) := ho3.later hbx
  have HCL : Hid (Cur w0.heap.size (w4.alloc (.cells #[.slice a3 ns.length cap3] 30)) g) := HC4.out.grown hbx
  have HBL : Hid (Below w0.heap.size w0 (w4.alloc (.cells #[.slice a3 ns.length cap3] 30))) := HB4.out.trans (hbx.mono HB4.out.size)
  have hsL : (w4.alloc (.cells #[.slice a3 ns.length cap3] 30)).heap.size = w4.heap.size + 1 := by simp
  have HFT : Hid (∀ y ∈ ns, y.Fits) := hfit
  obtain ⟨wL, hwL⟩ : ∃ wL, wL = (w4.alloc (.cells #[.slice a3 ns.length cap3] 30)) := ⟨_, rfl⟩
  rw [← hwL] at HAb HOA HCL HBL hsL
  have hbE : Below wL.heap.size wL (wL.alloc (.cells #[] 3)) := (Below.refl _ _).alloc (Nat.le_refl _) _
  have HO : Hid ((wL.alloc (.cells #[] 3)).ownsRow wL.heap.size 3 1 (.slice (some ⟨w4.heap.size + 1, 0, none⟩) 0 0) 0 (([] : List Int).map (Value.int .i64))) := by have := World.ownsRow_made wL #[] 0 (base := wL.heap.size) (e := 3) (size := 1) (Nat.le_refl _) (by decide) rfl; show World.ownsRow _ _ _ _ _ _ _; rw [← hsL]; exact this
  have HC : Hid (Cur w0.heap.size (wL.alloc (.cells #[] 3)) g) := HCL.out.grown hbE
  have HG : Hid (wL.grownBy (wL.alloc (.cells #[] 3)) (some g)) := grown_below hbE _
  have hsE : wL.heap.size ≤ (wL.alloc (.cells #[] 3)).heap.size := by simp
  rw [hwL] at hbE
  clear ho3 hfit hbx HC4 HB4 HCL hbE
  have hgL : g < wL.heap.size := by omega
  have hkw : wrap64 (70 + (kd : Int)) = 70 + (kd : Int) := by unfold wrap64; omega
  have HWL : Hid (wL = (w4.alloc (.cells #[.slice a3 ns.length cap3] 30))) := hwL
  have HSE : Hid (wL.heap.size ≤ (wL.alloc (.cells #[] 3)).heap.size) := hsE
  have HSL : Hid (wL.heap.size = w4.heap.size + 1) := hsL
  have HGL : Hid (g < wL.heap.size) := hgL
  clear hwL hsE hsL hgL
  go_wp2
  have hwL := HWL.out
  have hsE := HSE.out
  have hsL := HSL.out
  have hgL := HGL.out
  have hkd0 := (kd_in hkd).1
  have hkd7 := (kd_in hkd).2
  generalize 70 + (kd : Int) = kk at hkd0 hkd7 ⊢
  go_loopw [9, 10] (fun v i wr => ∃ (m : Nat) (xs : List Int) (av : Option Addr) (cv : Nat), v = .slice av m cv ∧ i = .int .i64 (m : Int) ∧ m ≤ n ∧ Hid (xs.length = m ∧ ∀ x ∈ xs, 0 ≤ x ∧ x ≤ 4) ∧ Hid (wr.ownsRow wL.heap.size 3 1 v m (xs.map (Value.int .i64))) ∧ Hid (Cur w0.heap.size wr g) ∧ Hid (wL.grownBy wr (some g)) ∧ wL.heap.size ≤ wr.heap.size)
    (fun _ i _ => n - (intOf i).toNat)
  case atStart => rw [← hwL]; exact ⟨0, [], _, _, rfl, rfl, by omega, ⟨rfl, by simp⟩, HO, HC, HG, hsE⟩
  case round =>
    clear HO HC HG hsE hwL
    obtain ⟨m, xs, av, cv, rfl, rfl, hm, HX, HOW, HC, HG, hsr⟩ := hrel
    have hi0 : (0 : Int) ≤ (m : Int) := by omega
    by_cases hlt : m < n
    · have hlt' : (m : Int) < (n : Int) := by omega
      clear hlt
      go_wp2_with fail
      refine (below_any w0.heap.size g 5 _ (by omega) (by omega) HC.out).mono ?_
      rintro e w5 ⟨z, rfl, hz, hc5, hg5⟩
      have ho5 := own_grown HOW.out hg5 (by omega)
      have HG5 : Hid (wL.grownBy w5 (some g)) := grown_trans HG.out hg5
      have hs5 := hg5.size
      have HC5 : Hid (Cur w0.heap.size w5 g) := hc5
      clear HC HG HOW hg5 hc5
      go_wp2_with (at_builtin; refine wpList_append_own _ rfl _ _ 41 rfl wL.heap.size 3 i0 (.int .i64 0) 1 8 Try.underlying41 hi hz0 hz1 hz2 rfl (by decide) _ _ _ rfl (ho5.alloc _) ⟨w5.heap.size, 0, none⟩ 1 1 [.int .i64 (z : Int)] rfl rfl ?c1 ?c2 ?c3 ?c4 ?c5 ?_)
      case c1 =>
        have := cell_one_new w5 (.int .i64 (z : Int)) 3
        simpa using this
      case c2 => intro u hu; simp at hu; subst hu; rfl
      case c3 => unfold maxLen; omega
      case c4 => omega
      case c5 => simp; omega
      intro v' w6 hown' hgrow _
      have h56 : Below wL.heap.size w5 w6 := below_app ho5 (Below.refl _ _) (by omega) hgrow
      have HC6 : Hid (Cur w0.heap.size w6 g) := HC5.out.beyond hgL h56
      have HG6 : Hid (wL.grownBy w6 (some g)) := grown_then HG5.out h56
      have hs6 := h56.size
      have HO6 : Hid (w6.ownsRow wL.heap.size 3 1 v' (m + 1) ((xs ++ [(z : Int)]).map (Value.int .i64))) := by show World.ownsRow _ _ _ _ _ _ _; rw [List.map_append, hsL]; exact hown'
      obtain ⟨av', cv', rfl⟩ : ∃ av' cv', v' = .slice av' (m + 1) cv' := by
        rcases HO6.out.2 with ⟨rfl, h0⟩ | ⟨g, cap', cur, rfl, _⟩
        · omega
        · exact ⟨_, _, rfl⟩
      have HX6 : Hid ((xs ++ [(z : Int)]).length = m + 1 ∧ ∀ x ∈ xs ++ [(z : Int)], 0 ≤ x ∧ x ≤ 4) := ⟨by simp [HX.out.1], fun x hx => by rcases List.mem_append.1 hx with h | h; exact HX.out.2 x h; simp at h; omega⟩
      clear hown' hgrow ho5 h56 HX HG5 HC5
      go_wp2
      go_roundw
      case rel => exact ⟨m + 1, _, av', cv', rfl, by go_num, by omega, HX6, HO6, HC6, HG6, by omega⟩
      case measure => simp [intOf]; omega
    · have hlt' : ¬ (m : Int) < (n : Int) := by omega
      have hA6 := (HG.out.block w4.heap.size (by omega) (by simp; omega)).trans HAb.out
      have hx6 := (HG.out.block w.heap.size (by omega) (by simp; omega)).trans ((HBL.out.block w.heap.size (by omega)).trans hx0)
      have ca : wr.cell? ⟨w4.heap.size, 0, none⟩ = some (.slice a3 ns.length cap3) := (cell_of_row _ _ 0 _ _ _ hA6).trans rfl
      have r0 : wr.cell? ⟨w.heap.size, 0, none⟩ = some (.slice none 0 0) := (cell_of_row _ _ 0 _ _ _ hx6).trans rfl
      have f0 : wr.frozen? ⟨w.heap.size, 0, none⟩ = false := frozen_of_row _ _ 0 _ _ hx6
      have HR1 : Hid ((wr.setCell ⟨w.heap.size, 0, none⟩ (.slice a3 ns.length cap3)).heap[w.heap.size]? = some (.cells #[.slice a3 ns.length cap3] 30 (0, 0))) := (heap_setCell_same _ _ 0 _ _ _ hx6).trans rfl
      have HR2 : Hid (OwnN w.heap.size (wr.setCell ⟨w.heap.size, 0, none⟩ (.slice a3 ns.length cap3)) (.slice a3 ns.length cap3) ns) := OwnN.base (ownsRow_setCell_below (World.ownsRow.kept HOA.out HG.out (by
        rcases HOA.out.2 with ⟨h0, _⟩ | ⟨g', c', cur', e', hg', _⟩
        · left; rw [h0]; rfl
        · right; rw [e']; simp [Value.ownBlock]; omega)) (show w.heap.size < w3.heap.size by omega) _) (by omega)
      have HR3 : Hid (OwnInt w.heap.size (wr.setCell ⟨w.heap.size, 0, none⟩ (.slice a3 ns.length cap3)) (.slice av m cv) xs) := by show World.ownsRow _ _ _ _ _ _ _; rw [HX.out.1]; exact own_base (ownsRow_setCell_below HOW.out (show w.heap.size < wL.heap.size by omega) _) (by omega)
      have HR4 : Hid (Below w.heap.size w (wr.setCell ⟨w.heap.size, 0, none⟩ (.slice a3 ns.length cap3))) := (hb0.trans ((HBL.out.mono (by omega)).trans ⟨HG.out.os, HG.out.tape, HG.out.output, HG.out.size, fun k hk => HG.out.block k (by omega) (by simp; omega)⟩)).setCell (Nat.le_refl _) _
      have HALL : Hid (1 ≤ ns.length ∧ ns.length ≤ 14 ∧ (∀ y ∈ ns, y.Fits) ∧ 70 ≤ kk ∧ kk ≤ 77 ∧ ∃ xs : List Int, xs.length ≤ 3 ∧ (∀ x ∈ xs, 0 ≤ x ∧ x ≤ 4) ∧ OwnN w.heap.size (wr.setCell ⟨w.heap.size, 0, none⟩ (.slice a3 ns.length cap3)) (.slice a3 ns.length cap3) ns ∧ OwnInt w.heap.size (wr.setCell ⟨w.heap.size, 0, none⟩ (.slice a3 ns.length cap3)) (.slice av m cv) xs ∧ Below w.heap.size w (wr.setCell ⟨w.heap.size, 0, none⟩ (.slice a3 ns.length cap3))) := ⟨hn1, hn2, HFT.out, hkd0, hkd7, xs, by rw [HX.out.1]; omega, HX.out.2, HR2.out, HR3.out, HR4.out⟩
      clear hA6 hx6 HOW HC HG HOA HAb HBL HR2 HR3 HR4 HX HFT
      go_wp2
      refine bodyPost_ret (res_cell3 rfl _ _ w.heap.size 30 #[.slice a3 ns.length cap3] (0, 0) _ rfl ?_ Try.underlying30 rfl arenaSize) rfl ?_
      · exact HR1.out
      · exact ⟨.slice a3 ns.length cap3, ns, kk, .slice av m cv, rfl, HALL.out⟩
end Go.Proofs.Ytlecpjgeaigjkaa

namespace Go.Proofs.Ytlecpjgeaigjkaa
open Go.RowKit
set_option linter.unusedVariables false
theorem Cur.keep {B g : Nat} {w w' : World} (h : Cur B w g) (hb : Below (g + 1) w w') : Cur B w' g := by
  obtain ⟨h1, h2, a, len, cap, i, hh, h3, h4, h5⟩ := h
  refine ⟨h1, Nat.lt_of_lt_of_le h2 hb.size, a, len, cap, i, hh, h3, ⟨h4.1, ?_⟩, (hb.block g (by omega)).trans h5⟩
  rcases h4.2 with h0 | ⟨b, off, rfl, hbB, hc⟩
  · exact .inl h0
  · exact .inr ⟨b, off, rfl, hbB, fun i hi => by
      obtain ⟨z, hz, h1⟩ := hc i hi
      exact ⟨z, (hb.cell (p := ⟨b, off + i, none⟩) (show b < g + 1 by omega)).trans hz, h1⟩⟩
theorem Dq.put {w : World} {B g ga : Nat} {ns ms : List Nd} {wr w1 : World} (h : Dq w B g ga ns wr) (ha : ArenaAt (w.heap.size + 1) w1 ga ms) (hb : Below (w.heap.size + 1) wr w1) : Dq w B g ga ms w1 :=
  ⟨ha, h.cur.keep (hb.mono (by have := h.lt; omega)), grown_then h.gr (hb.mono (by omega)), (hb.block _ (by omega)).trans h.box, h.lt⟩
theorem Dq.step {w : World} {B g ga : Nat} {ns : List Nd} {wr w1 : World} (h : Dq w B g ga ns wr) (hc : Cur B w1 g) (hg : wr.grownBy w1 (some g)) : Dq w B g ga ns w1 :=
  ⟨h.at_.cur hg (by have := h.lt; omega), hc, grown_trans h.gr hg, (hg.block w.heap.size (Array.getElem?_eq_some_iff.1 h.box).1 (by have := h.lt; simp; omega)).trans h.box, h.lt⟩
theorem Dq.size {w : World} {B g ga : Nat} {ns : List Nd} {wr : World} (h : Dq w B g ga ns wr) : w.heap.size + 1 ≤ wr.heap.size := by have := h.at_.1; have := h.at_.2.1; omega
theorem putK_rg (ns : List Nd) (x : Nd) : -1 ≤ putK ns x ∧ putK ns x ≤ (ns.length : Int) := by
  unfold putK
  split
  · split
    · omega
    · have := findN_range ns x; omega
  · omega
theorem makeK_rg (ns : List Nd) (kd x y : Int) : -1 ≤ makeK ns kd x y ∧ makeK ns kd x y ≤ (ns.length : Int) := by
  unfold makeK
  split
  · omega
  · exact putK_rg _ _
theorem putA_len1 (ns : List Nd) (x : Nd) : (putA ns x).length ≤ ns.length + 1 := by unfold putA; split <;> simp
theorem makeA_len1 (ns : List Nd) (kd x y : Int) : (makeA ns kd x y).length ≤ ns.length + 1 := by
  unfold makeA
  split
  · omega
  · exact putA_len1 _ _
set_option maxHeartbeats 3200000 in
set_option maxRecDepth 20000 in
theorem arena11_any (B g : Nat) (w : World) (hc : Cur B w g) :
    Calls Try.prog 57 #[.pointer (some ⟨g, 0, none⟩)] w fun e w' => ∃ v ns, ∃ no pu : Int, e = .returned (.tuple #[.agg #[v], .int .i64 no, .int .i64 pu]) ∧ ns.length ≤ 17 ∧ (∀ y ∈ ns, y.Fits) ∧ -1 ≤ no ∧ no ≤ 20 ∧ -1 ≤ pu ∧ pu ≤ 20 ∧ OwnN w.heap.size w' v ns ∧ Cur B w' g ∧ w.grownBy w' (some g) := by
  have hgl := hc.2.1
  have hb0 : Below w.heap.size w (w.alloc (.cells #[.slice none 0 0] 30)) := (Below.refl _ _).alloc (Nat.le_refl _) _
  have hx0 := heap_alloc_new w (.cells #[.slice none 0 0] 30)
  have hc0 := hc.grown hb0
  have hg0 := grown_below hb0 (some g)
  have hs0 : (w.alloc (.cells #[.slice none 0 0] 30)).heap.size = w.heap.size + 1 := by simp
  clear hc
  go_enter Try.func57, Try.ntmps57
  go_wp2_with fail
  generalize w.alloc (.cells #[.slice none 0 0] 30) = w0 at hb0 hx0 hc0 hg0 hs0 ⊢
  refine (anyArena_any B g _ hc0).mono ?_
  rintro e w1 ⟨v3, ns, rfl, hn1, hn2, hfit, ho3, hc1, hg1⟩
  obtain ⟨a3, cap3, rfl, _, _⟩ := ho3.row
  obtain ⟨ga, HGA⟩ : ∃ ga, Hid (w1.heap.size = ga) := ⟨_, rfl⟩
  have hbx : Below w1.heap.size w1 (w1.alloc (.cells #[.slice a3 ns.length cap3] 30)) := (Below.refl _ _).alloc (Nat.le_refl _) _
  have hs1 := hg1.size
  have HQ0 : Hid (Dq w B g w1.heap.size ns (w1.alloc (.cells #[.slice a3 ns.length cap3] 30))) := ⟨⟨by omega, by simp, _, heap_alloc_new w1 _, OwnN.base (ho3.later hbx) (by omega), fun e => by have := (ho3.lt _ e).2; omega⟩, hc1.grown hbx, grown_then (grown_trans hg0 hg1) (hbx.mono (by omega)), (hbx.block _ (by omega)).trans ((hg1.block w.heap.size (by omega) (by simp; omega)).trans hx0), hgl⟩
  have HF0 : Hid (∀ y ∈ ns, y.Fits) := hfit
  clear ho3 hc1 hg1 hbx hx0 hc0 hg0 hb0 hfit
  have hu0 : (w1.alloc (.cells #[.slice a3 ns.length cap3] 30)).heap.size = w1.heap.size + 1 := by simp
  go_wp2_with fail
  rw [HGA.out] at HQ0 hu0 ⊢
  generalize w1.alloc (.cells #[.slice a3 ns.length cap3] 30) = u0 at HQ0 hu0 ⊢
  have hbp : Below u0.heap.size u0 (u0.alloc (.cells #[.int .i64 10001, .int .i64 10011, .int .i64 1000, .int .i64 999] 3)) := (Below.refl _ _).alloc (Nat.le_refl _) _
  have hrow := heap_alloc_new u0 (.cells #[.int .i64 10001, .int .i64 10011, .int .i64 1000, .int .i64 999] 3)
  have HQ0p : Hid (Dq w B g ga (ns) (u0.alloc (.cells #[.int .i64 10001, .int .i64 10011, .int .i64 1000, .int .i64 999] 3))) := HQ0.out.made hbp
  have HCL : Hid (∀ i, i < 4 → (u0.alloc (.cells #[.int .i64 10001, .int .i64 10011, .int .i64 1000, .int .i64 999] 3)).cell? ⟨u0.heap.size, i, none⟩ = some (.int .i64 (([10001, 10011, 1000, 999] : List Int).getD i 0))) := fun i hi => by
    rw [cell_of_row _ _ i _ _ _ hrow]
    rcases (show i = 0 ∨ i = 1 ∨ i = 2 ∨ i = 3 by omega) with rfl | rfl | rfl | rfl <;> rfl
  have hgu : u0.heap.size ≠ g := by have := HQ0.out.lt; have := HQ0.out.size; omega
  clear hbp hrow HQ0
  rw [hu0] at HCL hgu
  refine (pickInt_any B g (ga + 1) 4 _ [10001, 10011, 1000, 999] _ (by omega) (by omega) rfl hgu HCL.out HQ0p.out.cur).mono ?_
  rintro e u1 ⟨z1, hz1, rfl, hc, hg⟩
  have hbz1 : 999 ≤ z1 ∧ z1 ≤ 10011 := by simp at hz1; omega
  have HQ1 : Hid (Dq w B g ga (ns) u1) := HQ0p.out.step hc hg
  clear hc hg HCL hgu hz1 HQ0p
  go_wp2_with fail
  refine (specAtomP_any (w.heap.size + 1) ga ns z1 u1 (by omega) HQ1.out.at_ HQ1.out.size).mono ?_
  rintro e u2 ⟨rfl, ha, hb⟩
  have HQ2 : Hid (Dq w B g ga (putA ns ⟨1, z1, 0, 0⟩) u2) := HQ1.out.put ha hb
  clear ha hb HQ1
  obtain ⟨n1, k1, hN1, hk1, hl1, HF1, hkr1⟩ : ∃ n1 k1, putA ns ⟨1, z1, 0, 0⟩ = n1 ∧ putK ns ⟨1, z1, 0, 0⟩ = k1 ∧ n1.length ≤ 15 ∧ Hid (∀ y ∈ n1, y.Fits) ∧ (-1 ≤ k1 ∧ k1 ≤ 20) := ⟨_, _, rfl, rfl, by have := putA_len1 ns ⟨1, z1, 0, 0⟩; omega, putA_fits HF0.out (by omega), by have := putK_rg ns ⟨1, z1, 0, 0⟩; omega⟩
  rw [hk1]
  rw [hN1] at HQ2
  clear hN1 hk1 HF0
  have hbp : Below u2.heap.size u2 (u2.alloc (.cells #[.int .i64 10000, .int .i64 5000] 3)) := (Below.refl _ _).alloc (Nat.le_refl _) _
  have hrow := heap_alloc_new u2 (.cells #[.int .i64 10000, .int .i64 5000] 3)
  have HQ2p : Hid (Dq w B g ga (n1) (u2.alloc (.cells #[.int .i64 10000, .int .i64 5000] 3))) := HQ2.out.made hbp
  have HCL : Hid (∀ i, i < 2 → (u2.alloc (.cells #[.int .i64 10000, .int .i64 5000] 3)).cell? ⟨u2.heap.size, i, none⟩ = some (.int .i64 (([10000, 5000] : List Int).getD i 0))) := fun i hi => by
    rw [cell_of_row _ _ i _ _ _ hrow]
    rcases (show i = 0 ∨ i = 1 by omega) with rfl | rfl <;> rfl
  have hgu : u2.heap.size ≠ g := by have := HQ2.out.lt; have := HQ2.out.size; omega
  clear hbp hrow HQ2
  go_wp2_with fail
  refine (pickInt_any B g u2.heap.size 2 _ [10000, 5000] _ (by omega) (by omega) rfl hgu HCL.out HQ2p.out.cur).mono ?_
  rintro e u3 ⟨z2, hz2, rfl, hc, hg⟩
  have hbz2 : 5000 ≤ z2 ∧ z2 ≤ 10000 := by simp at hz2; omega
  have HQ3 : Hid (Dq w B g ga (n1) u3) := HQ2p.out.step hc hg
  clear hc hg HCL hgu hz2 HQ2p
  go_wp2_with fail
  refine (specAtomP_any (w.heap.size + 1) ga n1 z2 u3 (by omega) HQ3.out.at_ HQ3.out.size).mono ?_
  rintro e u4 ⟨rfl, ha, hb⟩
  have HQ4 : Hid (Dq w B g ga (putA n1 ⟨1, z2, 0, 0⟩) u4) := HQ3.out.put ha hb
  clear ha hb HQ3
  obtain ⟨n2, k2, hN2, hk2, hl2, HF2⟩ : ∃ n2 k2, putA n1 ⟨1, z2, 0, 0⟩ = n2 ∧ putK n1 ⟨1, z2, 0, 0⟩ = k2 ∧ n2.length ≤ 16 ∧ Hid (∀ y ∈ n2, y.Fits) := ⟨_, _, rfl, rfl, by have := putA_len1 n1 ⟨1, z2, 0, 0⟩; omega, putA_fits HF1.out (by omega)⟩
  rw [hk2]
  rw [hN2] at HQ4
  clear hN2 hk2 HF1
  go_wp2_with fail
  refine (specMakeP_any (w.heap.size + 1) ga n2 6 k2 0 u4 (by omega) HQ4.out.at_ HQ4.out.size).mono ?_
  rintro e u5 ⟨rfl, ha, hb⟩
  have HQ5 : Hid (Dq w B g ga (makeA n2 6 k2 0) u5) := HQ4.out.put ha hb
  clear ha hb HQ4
  obtain ⟨n3, k3, hN3, hk3, hl3, HF3, hkr3⟩ : ∃ n3 k3, makeA n2 6 k2 0 = n3 ∧ makeK n2 6 k2 0 = k3 ∧ n3.length ≤ 17 ∧ Hid (∀ y ∈ n3, y.Fits) ∧ (-1 ≤ k3 ∧ k3 ≤ 20) := ⟨_, _, rfl, rfl, by have := makeA_len1 n2 6 k2 0; omega, makeA_fits HF2.out (by omega), by have := makeK_rg n2 6 k2 0; omega⟩
  rw [hk3]
  rw [hN3] at HQ5
  clear hN3 hk3 HF2
  go_wp2_with fail
  refine (once_any B g 8 _ (by omega) (by omega) HQ5.out.cur).mono ?_
  rintro e u6 ⟨on, rfl, hc, hg⟩
  have HQ6 : Hid (Dq w B g ga n3 u6) := HQ5.out.step hc hg
  clear hc hg HQ5
  obtain ⟨t1, t2, tv, t3, t4, t5⟩ := HQ6.out.at_
  obtain ⟨av, cw, rfl, _, _⟩ := t4.row
  have ca : u6.cell? ⟨ga, 0, none⟩ = some (.slice av n3.length cw) := (cell_of_row _ _ 0 _ _ _ t3).trans rfl
  have r0 : u6.cell? ⟨w.heap.size, 0, none⟩ = some (.slice none 0 0) := (cell_of_row _ _ 0 _ _ _ HQ6.out.box).trans rfl
  have f0 : u6.frozen? ⟨w.heap.size, 0, none⟩ = false := frozen_of_row _ _ 0 _ _ HQ6.out.box
  have HBL : Hid ((u6.setCell ⟨w.heap.size, 0, none⟩ (.slice av n3.length cw)).heap[w.heap.size]? = some (.cells #[.slice av n3.length cw] 30 (0, 0))) := (heap_setCell_same _ _ 0 _ _ _ HQ6.out.box).trans rfl
  have tB : Below w.heap.size u6 (u6.setCell ⟨w.heap.size, 0, none⟩ (.slice av n3.length cw)) := (Below.refl w.heap.size _).setCell (show w.heap.size ≤ w.heap.size by omega) _
  have HEN : Hid (OwnN w.heap.size (u6.setCell ⟨w.heap.size, 0, none⟩ (.slice av n3.length cw)) (.slice av n3.length cw) n3 ∧ Cur B (u6.setCell ⟨w.heap.size, 0, none⟩ (.slice av n3.length cw)) g ∧ w.grownBy (u6.setCell ⟨w.heap.size, 0, none⟩ (.slice av n3.length cw)) (some g)) := ⟨OwnN.base (ownsRow_setCell_below t4 (show w.heap.size < w.heap.size + 1 by omega) _) (by omega), HQ6.out.cur.keep (tB.mono (by omega)), grown_then HQ6.out.gr tB⟩
  clear t1 t2 t3 t4 t5 tB HQ6
  cases on
  · go_wp2
    refine bodyPost_ret (res_cell3 rfl _ _ w.heap.size 30 #[.slice av n3.length cw] (0, 0) _ rfl ?_ Try.underlying30 rfl arenaSize) rfl ?_
    · exact HBL.out
    · exact ⟨_, n3, _, _, rfl, hl3, HF3.out, by omega, by omega, by omega, by omega, HEN.out.1, HEN.out.2.1, HEN.out.2.2⟩
  · go_wp2
    refine bodyPost_ret (res_cell3 rfl _ _ w.heap.size 30 #[.slice av n3.length cw] (0, 0) _ rfl ?_ Try.underlying30 rfl arenaSize) rfl ?_
    · exact HBL.out
    · exact ⟨_, n3, _, _, rfl, hl3, HF3.out, by omega, by omega, by omega, by omega, HEN.out.1, HEN.out.2.1, HEN.out.2.2⟩
end Go.Proofs.Ytlecpjgeaigjkaa
