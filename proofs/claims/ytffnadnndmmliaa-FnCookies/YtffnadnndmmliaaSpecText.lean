/- The contracts of chapter 3's l03Text and TermText, the specification's. -/
import Derived.Test.YtffnadnndmmliaaImplR
import Derived.Test.YtffnadnndmmliaaPlain
import Derived.WalkKit
import Derived.WalkLawsBesides
import Derived.WalkSpells
namespace Go.Proofs.Ytffnadnndmmliaa
open Go.RowKit
set_option linter.unusedVariables false

theorem strOf_app (xs ys : List Int) : strOfNums (xs ++ ys) = strOfNums xs ++ strOfNums ys := by
  have h : (strOfNums (xs ++ ys)).data.toList = (strOfNums xs ++ strOfNums ys).data.toList := by
    rw [strOfNums_data, List.map_append]
    have : ∀ a b : ByteArray, (a ++ b).data.toList = a.data.toList ++ b.data.toList := fun a b => by
      rw [ByteArray.data_append]; simp
    rw [this, strOfNums_data, strOfNums_data]
  exact ByteArray.ext (Array.ext' h)
theorem l01Var_i (x : Int) (w : World) (h0 : 0 ≤ x) (h1 : x ≤ 9223372036854775807) :
    Calls Try.prog 160 #[.int .i64 x] w fun e w' => e = .returned (.string (strOfNums (vb x.toNat))) ∧ Below w.heap.size w w' := by
  obtain ⟨n, rfl⟩ : ∃ n : Nat, x = (n : Int) := ⟨x.toNat, by omega⟩
  exact l01Var_any n w (by omega)

theorem good_szS {ns : List Nd} {i : Nat} (h : ∀ j, j ≤ i → nodeB (ns.getD j Nd.zero) (j : Int) = true) : szv ns i = if 100000 < szSum ns (ns.getD i Nd.zero) then 100000 else szSum ns (ns.getD i Nd.zero) :=
  szv_good (h i (Nat.le_refl _)) (fun h0 => by have := szv_range ns (i - 1) (fun j hj => h j (by omega)); omega)
theorem szv_kidsS {ns : List Nd} {k : Nat} (h : Good ns k) (hz : szv ns k ≤ 2000) : szv ns k = szSum ns (ns.getD k Nd.zero) := by
  have e := good_szS h.2
  rw [e] at hz ⊢
  split at hz
  · omega
  · rw [if_neg (by assumption)]
def TextT (ns : List Nd) (k : Nat) : Prop := ∀ (a : Option Addr) (cap : Nat) (w : World), RowN w.heap.size w a ns →
    Calls Try.prog 100 #[.agg #[.slice a ns.length cap], .int .i64 (k : Int)] w fun e w' => e = .returned (.string (strOfNums (tx ns k))) ∧ Below w.heap.size w w'
/-- What a walk holds behind its first two boxes. -/
theorem two_boxes (w : World) (v : Value) (k n a b : Int) : ∃ w0, w0 = (w.alloc (.cells #[v] 28)).alloc (.cells #[.int .i64 k, .int .i64 n, .int .i64 a, .int .i64 b] 45) ∧ w0.heap.size = w.heap.size + 2 ∧ Below w.heap.size w w0 ∧ w0.cell? ⟨w.heap.size, 0, none⟩ = some v ∧ w0.cell? ⟨w.heap.size + 1, 0, none⟩ = some (.int .i64 k) ∧ w0.cell? ⟨w.heap.size + 1, 1, none⟩ = some (.int .i64 n) ∧ w0.cell? ⟨w.heap.size + 1, 2, none⟩ = some (.int .i64 a) ∧ w0.cell? ⟨w.heap.size + 1, 3, none⟩ = some (.int .i64 b) := by
  have hn := heap_alloc_new (w.alloc (.cells #[v] 28)) (.cells #[.int .i64 k, .int .i64 n, .int .i64 a, .int .i64 b] 45)
  have hs : (w.alloc (.cells #[v] 28)).heap.size = w.heap.size + 1 := by simp
  rw [hs] at hn
  have hA : ((w.alloc (.cells #[v] 28)).alloc (.cells #[.int .i64 k, .int .i64 n, .int .i64 a, .int .i64 b] 45)).heap[w.heap.size]? = some (.cells #[v] 28 (0, 0)) := by
    rw [heap_alloc_old _ _ (by simp)]; exact heap_alloc_new w _
  exact ⟨_, rfl, by simp, ((Below.refl _ _).alloc (Nat.le_refl _) _).alloc (by simp) _, (cell_of_row _ _ 0 _ _ _ hA).trans rfl, (cell_of_row _ _ 0 _ _ _ hn).trans rfl, (cell_of_row _ _ 1 _ _ _ hn).trans rfl, (cell_of_row _ _ 2 _ _ _ hn).trans rfl, (cell_of_row _ _ 3 _ _ _ hn).trans rfl⟩
set_option maxHeartbeats 1600000 in
set_option maxRecDepth 20000 in
theorem text_atom (ns : List Nd) (k : Nat) (hl : ns.length ≤ 1048576) (hg : Good ns k) (hz : szv ns k ≤ 2000) (hk1 : (ns.getD k Nd.zero).k = 1) : TextT ns k := by
  intro a cap w hr
  have hkl := hg.1
  have HT : Hid _ := tx_atom hk1
  rcases nodeB_true (hg.2 k (Nat.le_refl _)) with ⟨_, hn0, hn1, _⟩ | ⟨h, _⟩ | ⟨h, _⟩
  rotate_left
  · omega
  · omega
  obtain ⟨b, off, rfl⟩ := hr.addr hkl
  obtain ⟨hbb, c0, c1, c2, c3⟩ := hr.at (Below.refl _ _) hkl
  have hi0 : (0 : Int) ≤ (k : Int) := by omega
  have hi1 : (k : Int) < (ns.length : Int) := by omega
  generalize ns.getD k Nd.zero = y at c0 c1 c2 c3 HT hk1 hn0 hn1
  obtain ⟨yk, yn, ya, yb⟩ := y
  dsimp only at c0 c1 c2 c3 hk1 hn0 hn1 HT
  subst hk1
  obtain ⟨w0, hw0, hs0, hB0, e0, e1, e2, e3, e4⟩ := two_boxes w (.slice (some ⟨b, off, none⟩) ns.length cap) 1 yn ya yb
  clear hr hg
  go_enter Try.func100, Try.ntmps100
  go_wp2_with fail
  rw [← hw0]
  clear hw0 c0 c1 c2 c3
  refine (l01Var_any 1 _ (by omega)).mono ?_
  rintro e w1 ⟨rfl, hb1⟩
  have f0 := (hb1.cell (p := ⟨w.heap.size + 1, 0, none⟩) (show w.heap.size + 1 < w0.heap.size by omega)).trans e1
  have f1 := (hb1.cell (p := ⟨w.heap.size + 1, 1, none⟩) (show w.heap.size + 1 < w0.heap.size by omega)).trans e2
  have hB1 : Below w.heap.size w w1 := hB0.trans (hb1.mono hB0.size)
  clear e0 e1 e2 e3 e4 hb1 hB0
  go_wp2_with fail
  refine (l01Var_i yn _ hn0 (by omega)).mono ?_
  rintro e w2 ⟨rfl, hb2⟩
  have hB2 : Below w.heap.size w w2 := hB1.trans (hb2.mono hB1.size)
  have HE : Hid (strOfNums (tx ns k) = strOfNums (vb 1) ++ strOfNums (vb yn.toNat)) := by show _ = _; rw [HT.out, strOf_app]
  have hz1 : (strOfNums (vb 1)).size ≤ 10 := by rw [strOfNums_size]; exact vb_len10 1 (by omega)
  have hz2 : (strOfNums (vb yn.toNat)).size ≤ 10 := by rw [strOfNums_size]; exact vb_len10 _ (by omega)
  clear f0 f1 hb2 hB1
  go_wp2
  go_ret
  exact ⟨by rw [HE.out]; rfl, hB2⟩
set_option maxHeartbeats 1600000 in
set_option maxRecDepth 20000 in
theorem text_one (ns : List Nd) (k : Nat) (hl : ns.length ≤ 1048576) (hg : Good ns k) (hk2 : 2 ≤ (ns.getD k Nd.zero).k) (hone : oneK (ns.getD k Nd.zero).k = true) (ih : TextT ns (ns.getD k Nd.zero).a.toNat) (hza : (tx ns (ns.getD k Nd.zero).a.toNat).length ≤ 8000) : TextT ns k := by
  intro a cap w hr
  have hkl := hg.1
  have HT : Hid _ := tx_one hg hk2 hone
  have hkk : (ns.getD k Nd.zero).k ≤ 9 ∧ 0 ≤ (ns.getD k Nd.zero).a := by rcases nodeB_true (hg.2 k (Nat.le_refl _)) with h | h | h <;> omega
  obtain ⟨b, off, rfl⟩ := hr.addr hkl
  obtain ⟨hbb, c0, c1, c2, c3⟩ := hr.at (Below.refl _ _) hkl
  have hi0 : (0 : Int) ≤ (k : Int) := by omega
  have hi1 : (k : Int) < (ns.length : Int) := by omega
  have HR : Hid (RowN w.heap.size w (some ⟨b, off, none⟩) ns) := hr
  generalize ns.getD k Nd.zero = y at c0 c1 c2 c3 HT hk2 hone ih hkk hza
  obtain ⟨yk, yn, ya, yb⟩ := y
  dsimp only at c0 c1 c2 c3 hk2 hone ih hkk HT hza
  obtain ⟨p, rfl⟩ : ∃ p : Nat, ya = (p : Int) := ⟨ya.toNat, by omega⟩
  simp only [Int.toNat_natCast] at ih HT hza
  obtain ⟨w0, hw0, hs0, hB0, e0, e1, e2, e3, e4⟩ := two_boxes w (.slice (some ⟨b, off, none⟩) ns.length cap) yk yn p yb
  have hkn : (yk == 1) = false := by simp; omega
  have HIH : Hid (TextT ns p) := ih
  have HON : Hid (oneK yk = true) := hone
  have hy0 : 0 ≤ yk := by omega
  have hy1 : yk ≤ 9223372036854775807 := by omega
  clear hr hg ih hone hkk hk2
  go_enter Try.func100, Try.ntmps100
  go_wp2_with fail
  rw [← hw0]
  clear hw0 c0 c1 c2 c3
  refine (l01Var_i yk _ hy0 hy1).mono ?_
  rintro e w1 ⟨rfl, hb1⟩
  have f0 := (hb1.cell (p := ⟨w.heap.size + 1, 0, none⟩) (show w.heap.size + 1 < w0.heap.size by omega)).trans e1
  have f2 := (hb1.cell (p := ⟨w.heap.size + 1, 2, none⟩) (show w.heap.size + 1 < w0.heap.size by omega)).trans e3
  have fA := (hb1.cell (p := ⟨w.heap.size, 0, none⟩) (show w.heap.size < w0.heap.size by omega)).trans e0
  have hB1 : Below w.heap.size w w1 := hB0.trans (hb1.mono hB0.size)
  have hs1 := hb1.size
  clear e0 e1 e2 e3 e4 hb1 hB0
  go_wp2_with fail
  refine (HIH.out (some ⟨b, off, none⟩) cap w1 (HR.out.grown hB1)).mono ?_
  rintro e w2 ⟨rfl, hb2⟩
  have g0 := (hb2.cell (p := ⟨w.heap.size + 1, 0, none⟩) (show w.heap.size + 1 < w1.heap.size by omega)).trans f0
  have hB2 : Below w.heap.size w w2 := hB1.trans (hb2.mono hB1.size)
  have HE : Hid (strOfNums (tx ns k) = strOfNums (vb yk.toNat) ++ strOfNums (tx ns p)) := by show _ = _; rw [HT.out, strOf_app]
  have hz1 : (strOfNums (vb yk.toNat)).size ≤ 10 := by rw [strOfNums_size]; exact vb_len10 _ (by omega)
  have hz2 : (strOfNums (tx ns p)).size ≤ 8000 := by rw [strOfNums_size]; exact hza
  clear f0 f2 fA hb2 hB1 hza
  go_wp2_with (go_at_call 102; refine (specOne_any _ _).mono ?_; rintro e w' ⟨rfl, rfl⟩; rw [HON.out])
  go_ret
  exact ⟨by rw [HE.out]; rfl, hB2⟩
set_option maxHeartbeats 1600000 in
set_option maxRecDepth 20000 in
theorem text_two (ns : List Nd) (k : Nat) (hl : ns.length ≤ 1048576) (hg : Good ns k) (hk2 : 2 ≤ (ns.getD k Nd.zero).k) (hone : oneK (ns.getD k Nd.zero).k = false) (ih : TextT ns (ns.getD k Nd.zero).a.toNat) (ih2 : TextT ns (ns.getD k Nd.zero).b.toNat) (hza : (tx ns (ns.getD k Nd.zero).a.toNat).length ≤ 8000) (hzb : (tx ns (ns.getD k Nd.zero).b.toNat).length ≤ 8000) : TextT ns k := by
  intro a cap w hr
  have hkl := hg.1
  have HT : Hid _ := tx_two hg hk2 hone
  have hkk : (ns.getD k Nd.zero).k ≤ 9 ∧ 0 ≤ (ns.getD k Nd.zero).a ∧ 0 ≤ (ns.getD k Nd.zero).b := by rcases nodeB_true (hg.2 k (Nat.le_refl _)) with h | h | h <;> omega
  obtain ⟨b, off, rfl⟩ := hr.addr hkl
  obtain ⟨hbb, c0, c1, c2, c3⟩ := hr.at (Below.refl _ _) hkl
  have hi0 : (0 : Int) ≤ (k : Int) := by omega
  have hi1 : (k : Int) < (ns.length : Int) := by omega
  have HR : Hid (RowN w.heap.size w (some ⟨b, off, none⟩) ns) := hr
  generalize ns.getD k Nd.zero = y at c0 c1 c2 c3 HT hk2 hone ih ih2 hkk hza hzb
  obtain ⟨yk, yn, ya, yb⟩ := y
  dsimp only at c0 c1 c2 c3 hk2 hone ih ih2 hkk HT hza hzb
  obtain ⟨p, rfl⟩ : ∃ p : Nat, ya = (p : Int) := ⟨ya.toNat, by omega⟩
  obtain ⟨r, rfl⟩ : ∃ r : Nat, yb = (r : Int) := ⟨yb.toNat, by omega⟩
  simp only [Int.toNat_natCast] at ih ih2 HT hza hzb
  obtain ⟨w0, hw0, hs0, hB0, e0, e1, e2, e3, e4⟩ := two_boxes w (.slice (some ⟨b, off, none⟩) ns.length cap) yk yn p r
  have hkn : (yk == 1) = false := by simp; omega
  have HIH : Hid (TextT ns p) := ih
  have HIH2 : Hid (TextT ns r) := ih2
  have HON : Hid (oneK yk = false) := hone
  have hy0 : 0 ≤ yk := by omega
  have hy1 : yk ≤ 9223372036854775807 := by omega
  clear hr hg ih ih2 hone hkk hk2
  go_enter Try.func100, Try.ntmps100
  go_wp2_with fail
  rw [← hw0]
  clear hw0 c0 c1 c2 c3
  refine (l01Var_i yk _ hy0 hy1).mono ?_
  rintro e w1 ⟨rfl, hb1⟩
  have f0 := (hb1.cell (p := ⟨w.heap.size + 1, 0, none⟩) (show w.heap.size + 1 < w0.heap.size by omega)).trans e1
  have f2 := (hb1.cell (p := ⟨w.heap.size + 1, 2, none⟩) (show w.heap.size + 1 < w0.heap.size by omega)).trans e3
  have f3 := (hb1.cell (p := ⟨w.heap.size + 1, 3, none⟩) (show w.heap.size + 1 < w0.heap.size by omega)).trans e4
  have fA := (hb1.cell (p := ⟨w.heap.size, 0, none⟩) (show w.heap.size < w0.heap.size by omega)).trans e0
  have hB1 : Below w.heap.size w w1 := hB0.trans (hb1.mono hB0.size)
  have hs1 := hb1.size
  clear e0 e1 e2 e3 e4 hb1 hB0
  go_wp2_with fail
  refine (HIH.out (some ⟨b, off, none⟩) cap w1 (HR.out.grown hB1)).mono ?_
  rintro e w2 ⟨rfl, hb2⟩
  have g0 := (hb2.cell (p := ⟨w.heap.size + 1, 0, none⟩) (show w.heap.size + 1 < w1.heap.size by omega)).trans f0
  have g3 := (hb2.cell (p := ⟨w.heap.size + 1, 3, none⟩) (show w.heap.size + 1 < w1.heap.size by omega)).trans f3
  have gA := (hb2.cell (p := ⟨w.heap.size, 0, none⟩) (show w.heap.size < w1.heap.size by omega)).trans fA
  have hB2 : Below w.heap.size w w2 := hB1.trans (hb2.mono hB1.size)
  have hz1 : (strOfNums (vb yk.toNat)).size ≤ 10 := by rw [strOfNums_size]; exact vb_len10 _ (by omega)
  have hz2 : (strOfNums (tx ns p)).size ≤ 8000 := by rw [strOfNums_size]; exact hza
  have hz3 : (strOfNums (tx ns r)).size ≤ 8000 := by rw [strOfNums_size]; exact hzb
  have hz4 : (strOfNums (vb yk.toNat) ++ strOfNums (tx ns p)).size ≤ 8010 := by rw [ByteArray.size_append]; omega
  clear f0 f2 f3 fA hb2 hB1 hza hzb
  go_wp2_with (go_at_call 102; refine (specOne_any _ _).mono ?_; rintro e w' ⟨rfl, rfl⟩; rw [HON.out])
  refine (HIH2.out (some ⟨b, off, none⟩) cap w2 (HR.out.grown hB2)).mono ?_
  rintro e w3 ⟨rfl, hb3⟩
  have hB3 : Below w.heap.size w w3 := hB2.trans (hb3.mono hB2.size)
  have HE : Hid (strOfNums (tx ns k) = strOfNums (vb yk.toNat) ++ strOfNums (tx ns p) ++ strOfNums (tx ns r)) := by show _ = _; rw [HT.out, strOf_app, strOf_app, ByteArray.append_assoc]
  clear g0 g3 gA hb3 hB2
  go_wp2
  go_ret
  exact ⟨by rw [HE.out]; rfl, hB3⟩
theorem specTextT_any (ns : List Nd) (hl : ns.length ≤ 1048576) : ∀ k, Good ns k → szv ns k ≤ 2000 → TextT ns k := by
  intro k
  induction k using Nat.strongRecOn with
  | ind k ih =>
    intro hg hz
    have hsk := szv_kidsS hg hz
    unfold szSum at hsk
    rcases nodeB_true (hg.2 k (Nat.le_refl _)) with ⟨h1, _⟩ | ⟨h1, _, _, h2, h3, h4, _⟩ | ⟨h1, _, _, h2, h3, h4, h5, h6⟩
    · exact text_atom ns k hl hg hz h1
    · rw [if_neg (by omega), if_pos h4] at hsk
      have ga := hg.down (show (ns.getD k Nd.zero).a.toNat ≤ k by omega)
      have ra := szv_range ns _ ga.2
      exact text_one ns k hl hg h1 h4 (ih _ (by omega) ga (by omega)) (by have := tx_len _ ga (by omega); omega)
    · rw [if_neg (by omega), if_neg (one_no h4)] at hsk
      have ga := hg.down (show (ns.getD k Nd.zero).a.toNat ≤ k by omega)
      have gb := hg.down (show (ns.getD k Nd.zero).b.toNat ≤ k by omega)
      have ra := szv_range ns _ ga.2
      have rb := szv_range ns _ gb.2
      exact text_two ns k hl hg h1 h4 (ih _ (by omega) ga (by omega)) (ih _ (by omega) gb (by omega)) (by have := tx_len _ ga (by omega); omega) (by have := tx_len _ gb (by omega); omega)
theorem specText_no (a : Option Addr) (cap : Nat) (ns : List Nd) (k : Int) (w : World) (hl : ns.length ≤ 1048576) (hr : RowN w.heap.size w a ns) (h : inB (sizeN ns k) 1 2000 = false) :
    Calls Try.prog 32 #[.agg #[.slice a ns.length cap], .int .i64 k] w fun e w' => e = .returned (.tuple #[.string ByteArray.empty, .bool false]) ∧ Below w.heap.size w w' := by
  have hb0 : Below w.heap.size w (w.alloc (.cells #[.slice a ns.length cap] 28)) := (Below.refl _ _).alloc (Nat.le_refl _) _
  have HS : Hid _ := specSize_any a cap ns k _ hl (hr.grown hb0)
  have HB : Hid _ := hb0
  clear hr hb0
  generalize sizeN ns k = s at HS h
  go_enter Try.func32, Try.ntmps32
  go_wp2_with fail
  refine Calls.mono HS.out ?_
  rintro e w1 ⟨rfl, hb1⟩
  go_wp2_with (go_at_call 99; refine (specIn_any _ _ _ _).mono ?_; rintro e w' ⟨rfl, rfl⟩; rw [h])
  go_ret2
  exact ⟨rfl, HB.out.trans (hb1.mono HB.out.size)⟩
theorem specText_yes (a : Option Addr) (cap : Nat) (ns : List Nd) (k : Nat) (w : World) (hl : ns.length ≤ 1048576) (hr : RowN w.heap.size w a ns) (hg : Good ns k) (h2 : szv ns k ≤ 2000) :
    Calls Try.prog 32 #[.agg #[.slice a ns.length cap], .int .i64 (k : Int)] w fun e w' => e = .returned (.tuple #[.string (strOfNums (tx ns k)), .bool true]) ∧ Below w.heap.size w w' := by
  have hb0 : Below w.heap.size w (w.alloc (.cells #[.slice a ns.length cap] 28)) := (Below.refl _ _).alloc (Nat.le_refl _) _
  have hcA : (w.alloc (.cells #[.slice a ns.length cap] 28)).cell? ⟨w.heap.size, 0, none⟩ = some (.slice a ns.length cap) := by rw [cell_of_row _ w.heap.size 0 _ _ _ (heap_alloc_new w _)]; rfl
  have HS : Hid _ := specSize_any a cap ns k _ hl (hr.grown hb0)
  rw [sizeN_in ns k hg.1] at HS
  have hrg := szv_range ns k hg.2
  have HA : Hid (TextT ns k) := specTextT_any ns hl k hg h2
  have HR : Hid (RowN w.heap.size w a ns) := hr
  have h1 : inB (szv ns k) 1 2000 = true := inB_mk (by omega)
  have HB : Hid (Below w.heap.size w (w.alloc (.cells #[.slice a ns.length cap] 28))) := hb0
  clear hr hrg hg h2
  go_enter Try.func32, Try.ntmps32
  go_wp2_with fail
  generalize w.alloc (.cells #[.slice a ns.length cap] 28) = w0 at hb0 hcA HS HB ⊢
  refine Calls.mono HS.out ?_
  rintro e w1 ⟨rfl, hb1⟩
  have hs0 : w.heap.size < w0.heap.size := World.block_lt_of_cell? w0 _ hcA
  have hc1 := (hb1.cell (p := ⟨w.heap.size, 0, none⟩) hs0).trans hcA
  have hB1 : Below w.heap.size w w1 := HB.out.trans (hb1.mono HB.out.size)
  clear hb0 hb1 HS HB hcA
  go_wp2_with (go_at_call 99; refine (specIn_any _ _ _ _).mono ?_; rintro e w' ⟨rfl, rfl⟩; rw [h1])
  refine (HA.out a cap w1 (HR.out.grown hB1)).mono ?_
  rintro e w2 ⟨rfl, hb2⟩
  have hB2 : Below w.heap.size w w2 := hB1.trans (hb2.mono hB1.size)
  go_wp2
  go_ret2
  exact ⟨rfl, hB2⟩
end Go.Proofs.Ytffnadnndmmliaa
