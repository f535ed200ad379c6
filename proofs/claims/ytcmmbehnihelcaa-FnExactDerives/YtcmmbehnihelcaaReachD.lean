/- The contracts of chapter 5's hasPubOf and canMake, the program's; what stays as it is while what can be had is found. -/
import Derived.Test.YtcmmbehnihelcaaReachC
import Derived.Test.YtcmmbehnihelcaaLawArena2
import Derived.WalkKit
import Derived.WalkLawsBesides
import Derived.WalkSpells
import Derived.Laws.Rows
import Derived.Deep.RegionHeld3
import Derived.Deep.QuietTactic
import Derived.BigQuiet
namespace Go.Proofs.Ytcmmbehnihelcaa
open Go.RowKit
set_option linter.unusedVariables false
/-- What stays: the nodes, who uses them, their pubs. -/
structure Fx (w1 : World) (g h ub pb : Nat) (a : Option Addr) (ns : List Nd) : Prop where
  ok : allFrom ns ns 0 = true
  len : ns.length ≤ 3000
  nodes : ∃ B, B ≤ g ∧ B ≤ h ∧ B ≤ w1.heap.size ∧ RowN B w1 a ns
  pne : pb ≠ g ∧ pb ≠ h ∧ pb < w1.heap.size
  pubs : ∀ j, j < ns.length → w1.cell? ⟨pb, j, none⟩ = some (.int .i64 (pubN ns j ns.length))
  une : ub ≠ g ∧ ub ≠ h ∧ ub < w1.heap.size
  users : ∀ j, j < ns.length → ∃ ua uc, w1.cell? ⟨ub, j, none⟩ = some (.slice ua (usN ns j ns.length).length uc) ∧ (usN ns j ns.length = [] ∨ ∃ b off, ua = some ⟨b, off, none⟩ ∧ b ≠ g ∧ b ≠ h ∧ b < w1.heap.size ∧ ∀ i, i < (usN ns j ns.length).length → w1.cell? ⟨b, off + i, none⟩ = some (.int .i64 ((usN ns j ns.length).getD i 0 : Nat)))
theorem Sm.below {w1 : World} {g h n ca ub pb : Nat} {a : Option Addr} {bs : List Bool} {L : List (Nat × Nat)} {wr : World} (s : Sm w1 g h n ca ub pb a bs L wr) {B : Nat} (h1 : B ≤ g) (h2 : B ≤ h) (h3 : B ≤ w1.heap.size) : Below B w1 wr :=
  ⟨s.os, s.tape, s.output, s.size, fun k hk => s.block k (by omega) (by omega) (by omega)⟩
theorem Fx.node {w1 : World} {g h ca ub pb : Nat} {a : Option Addr} {ns : List Nd} (f : Fx w1 g h ub pb a ns) {bs : List Bool} {L : List (Nat × Nat)} {wr : World} (s : Sm w1 g h ns.length ca ub pb a bs L wr) {k : Nat} (hk : k < ns.length) :
    ∃ b off, a = some ⟨b, off, none⟩ ∧ wr.cell? ⟨b, off + k * 4, none⟩ = some (.int .i64 (ns.getD k Nd.zero).k) ∧ wr.cell? ⟨b, off + k * 4 + 1, none⟩ = some (.int .i64 (ns.getD k Nd.zero).n) ∧
    wr.cell? ⟨b, off + k * 4 + 2, none⟩ = some (.int .i64 (ns.getD k Nd.zero).a) ∧ wr.cell? ⟨b, off + k * 4 + 3, none⟩ = some (.int .i64 (ns.getD k Nd.zero).b) := by
  obtain ⟨B, h1, h2, h3, hr⟩ := f.nodes
  obtain ⟨b, off, rfl⟩ := hr.addr hk
  exact ⟨b, off, rfl, (hr.at (s.below h1 h2 h3) hk).2⟩
theorem Sm.cell1 {w1 : World} {g h n ca ub pb : Nat} {a : Option Addr} {bs : List Bool} {L : List (Nat × Nat)} {wr : World} (s : Sm w1 g h n ca ub pb a bs L wr) {b : Nat} (hb : b ≠ g ∧ b ≠ h ∧ b < w1.heap.size) (j : Nat) : wr.cell? ⟨b, j, none⟩ = w1.cell? ⟨b, j, none⟩ :=
  World.cell?_of_block (w := w1) (s.block b hb.2.2 hb.1 hb.2.1)
theorem Fx.pub {w1 : World} {g h ca ub pb : Nat} {a : Option Addr} {ns : List Nd} (f : Fx w1 g h ub pb a ns) {bs : List Bool} {L : List (Nat × Nat)} {wr : World} (s : Sm w1 g h ns.length ca ub pb a bs L wr) {k : Nat} (hk : k < ns.length) :
    wr.cell? ⟨pb, k, none⟩ = some (.int .i64 (pubN ns k ns.length)) := (s.cell1 f.pne k).trans (f.pubs k hk)
/-- Is the pub of a term had? -/
def pubB (ns : List Nd) (bs : List Bool) (j : Nat) : Bool := decide (0 ≤ pubN ns j ns.length) && bs.getD (pubN ns j ns.length).toNat false
set_option maxHeartbeats 1600000 in
set_option maxRecDepth 20000 in
theorem hasPub_any (w1 : World) (g h ca ub pb : Nat) (a : Option Addr) (ns : List Nd) (f : Fx w1 g h ub pb a ns) (bs : List Bool) (L : List (Nat × Nat)) (k : Nat) (w : World) (hk : k < ns.length) (s : Sm w1 g h ns.length ca ub pb a bs L w) :
    Calls Try.prog 109 #[.pointer (some ⟨g, 0, none⟩), .int .i64 (k : Int)] w fun e w' => e = .returned (.bool (pubB ns bs k)) ∧ Below w.heap.size w w' := by
  have c1 := s.c1
  have c3 := s.c3
  have cP := f.pub s hk
  have hk0 : (0 : Int) ≤ (k : Int) := by omega
  have hk1 : (k : Int) < (ns.length : Int) := by omega
  have hl := f.len
  have hr := pubN_range ns k ns.length
  rcases Int.lt_or_le (pubN ns k ns.length) 0 with h0 | h0
  · have hd : decide (0 ≤ pubN ns k ns.length) = false := by simp; omega
    have HM : Hid (pubB ns bs k = false) := by show _ = _; unfold pubB; rw [hd]; rfl
    generalize pubN ns k ns.length = q at *
    clear s f
    go_enter Try.func109, Try.ntmps109
    go_wp2_with fail
    go_quiet (fail)
    go_wp2
    go_ret
    exact ⟨by rw [HM.out]; rfl, by first | exact (Below.refl _ _).drew | exact below_dn (Below.refl _ _) _⟩
  · obtain ⟨q, hq⟩ := Int.eq_ofNat_of_zero_le h0
    have hd : decide ((0 : Int) ≤ (q : Int)) = true := by simp
    have HM : Hid (pubB ns bs k = bs.getD q false) := by show _ = _; unfold pubB; rw [hq, hd]; simp
    rw [hq] at cP hr h0
    have hq0 : (0 : Int) ≤ (q : Int) := by omega
    have hq1 : (q : Int) < (ns.length : Int) := by omega
    have cB := BoolsAt.cell s.had (show q < ns.length by omega)
    generalize bs.getD q false = t at cB HM
    clear s f hq
    go_enter Try.func109, Try.ntmps109
    go_wp2_with fail
    go_quiet (fail)
    go_wp2
    go_ret
    exact ⟨by rw [HM.out]; rfl, by first | exact (Below.refl _ _).drew | exact below_dn (Below.refl _ _) _⟩
set_option maxHeartbeats 6400000 in
set_option maxRecDepth 20000 in
theorem canMake_any (w1 : World) (g h ca ub pb : Nat) (a : Option Addr) (ns : List Nd) (f : Fx w1 g h ub pb a ns) (bs : List Bool) (L : List (Nat × Nat)) (k : Nat) (w : World) (hk : k < ns.length) (s : Sm w1 g h ns.length ca ub pb a bs L w) (x : Nd) (hx : ns.getD k Nd.zero = x) :
    Calls Try.prog 89 #[.pointer (some ⟨g, 0, none⟩), .agg #[.int .i64 x.k, .int .i64 x.n, .int .i64 x.a, .int .i64 x.b]] w fun e w' => e = .returned (.bool (madeB ns bs x)) ∧ Below w.heap.size w w' := by
  have hn := (all_at f.ok hk).1
  rw [hx] at hn
  have hl := f.len
  obtain ⟨xk, xn, xa, xb⟩ := x
  clear hx
  show Calls Try.prog 89 #[.pointer (some ⟨g, 0, none⟩), .agg #[.int .i64 xk, .int .i64 xn, .int .i64 xa, .int .i64 xb]] w fun e w' => e = .returned (.bool (madeB ns bs ⟨xk, xn, xa, xb⟩)) ∧ Below w.heap.size w w'
  have HE : Hid (Below w.heap.size w (w.alloc (.cells #[.int .i64 xk, .int .i64 xn, .int .i64 xa, .int .i64 xb] 34))) := (Below.refl _ _).alloc (Nat.le_refl _) _
  have HS : Hid (Sm w1 g h ns.length ca ub pb a bs L (w.alloc (.cells #[.int .i64 xk, .int .i64 xn, .int .i64 xa, .int .i64 xb] 34))) := s.next HE.out
  have HBX : Hid _ := heap_alloc_new w (.cells #[.int .i64 xk, .int .i64 xn, .int .i64 xa, .int .i64 xb] 34)
  have c1 := HS.out.c1
  have hsz : (w.alloc (.cells #[.int .i64 xk, .int .i64 xn, .int .i64 xa, .int .i64 xb] 34)).heap.size = w.heap.size + 1 := by simp
  rcases nodeB_true hn with h1 | h1 | h1
  · simp only at h1
    obtain ⟨rfl, h2, h3, rfl, rfl⟩ := h1
    have HM : Hid (madeB ns bs ⟨1, xn, 0, 0⟩ = decide (xn < 1000)) := by show _ = _; unfold madeB; rw [if_pos rfl]
    clear hn HS s f HBX hsz c1
    go_enter Try.func89, Try.ntmps89
    go_wp2
    go_ret
    exact ⟨by rw [HM.out]; try rfl, HE.out⟩
  · simp only at h1
    obtain ⟨h2, h3, rfl, h4, h5, h6, rfl⟩ := h1
    obtain ⟨i, rfl⟩ := Int.eq_ofNat_of_zero_le h4
    have hi0 : (0 : Int) ≤ (i : Int) := by omega
    have hi1 : (i : Int) < (ns.length : Int) := by omega
    have cB := BoolsAt.cell HS.out.had (show i < ns.length by omega)
    have h36 : xk = 3 ∨ xk = 6 := by unfold oneK at h6; simpa using h6
    have HM : Hid (madeB ns bs ⟨xk, 0, (i : Int), 0⟩ = bs.getD i false) := by show _ = _; unfold madeB; rw [if_neg (by show ¬ xk = 1; omega), if_pos h6]; simp
    generalize bs.getD i false = t at HM cB
    rcases h36 with rfl | rfl
    all_goals
      clear hn HS s f HBX hsz h6
      go_enter Try.func89, Try.ntmps89
      go_wp2_with fail
      go_quiet (fail)
      go_wp2
      go_ret
      exact ⟨by rw [HM.out]; try rfl, by first | exact HE.out.drew | exact below_dn HE.out _⟩
  · simp only at h1
    obtain ⟨h2, h3, rfl, h4, h5, h6, h7, h8⟩ := h1
    obtain ⟨i, rfl⟩ := Int.eq_ofNat_of_zero_le h4
    have hi0 : (0 : Int) ≤ (i : Int) := by omega
    have hi1 : (i : Int) < (ns.length : Int) := by omega
    have hi2 : i < ns.length := by omega
    obtain ⟨j, rfl⟩ := Int.eq_ofNat_of_zero_le h7
    have hj0 : (0 : Int) ≤ (j : Int) := by omega
    have hj1 : (j : Int) < (ns.length : Int) := by omega
    have hj2 : j < ns.length := by omega
    have hk3 : ¬ xk = 3 := fun e => by rw [e] at h6; simp [oneK] at h6
    have hk6 : ¬ xk = 6 := fun e => by rw [e] at h6; simp [oneK] at h6
    have hkk1 : ¬ xk = 1 := by omega
    have HO : Hid (oneK xk = false) := h6
    have cB := BoolsAt.cell HS.out.had hi2
    have cC := BoolsAt.cell HS.out.had hj2
    by_cases h77 : xk = 7
    · subst h77
      have HM : Hid (madeB ns bs ⟨7, 0, (i : Int), (j : Int)⟩ = ((bs.getD i false && pubB ns bs j) || (bs.getD j false && pubB ns bs i))) := by show _ = _; unfold madeB; rw [if_neg (by show ¬ (7 : Int) = 1; decide), if_neg (by show ¬ oneK 7 = true; decide), if_pos rfl]; simp [pubB]
      have hn0 := HBX.out
      have hsm := HS.out
      generalize hw0 : w.alloc (.cells #[.int .i64 7, .int .i64 0, .int .i64 (i : Int), .int .i64 (j : Int)] 34) = w0 at HE hsm hn0 hsz cB cC c1
      have HW0 : Hid _ := hw0
      clear hw0
      clear HS HBX hn HO hk3 hk6 hkk1 h6 h2 h3 h4 h5 h7 h8 s
      obtain ⟨S, hS0, hNE, HK⟩ := below_class (Below.refl w0.heap.size w0) (Nat.le_refl _)
      have q1 : ∀ q : Hw S, q.w.cell? ⟨g, 1, none⟩ = some (.slice (some ⟨h, 0, none⟩) ns.length ns.length) := fun q => (hsm.next (HK.out.2 _ q.ok)).c1
      have d2 : ∀ q : Hw S, q.w.cell? ⟨w.heap.size, 2, none⟩ = some (.int .i64 (i : Int)) := fun q => ((HK.out.2 _ q.ok).cell (p := ⟨w.heap.size, 2, none⟩) (show w.heap.size < w0.heap.size by omega)).trans ((cell_of_row _ _ 2 _ _ _ hn0).trans rfl)
      have d3 : ∀ q : Hw S, q.w.cell? ⟨w.heap.size, 3, none⟩ = some (.int .i64 (j : Int)) := fun q => ((HK.out.2 _ q.ok).cell (p := ⟨w.heap.size, 3, none⟩) (show w.heap.size < w0.heap.size by omega)).trans ((cell_of_row _ _ 3 _ _ _ hn0).trans rfl)
      have bI : ∀ q : Hw S, q.w.cell? ⟨h, i, none⟩ = some (.bool (bs.getD i false)) := fun q => BoolsAt.cell (hsm.next (HK.out.2 _ q.ok)).had hi2
      have bJ : ∀ q : Hw S, q.w.cell? ⟨h, j, none⟩ = some (.bool (bs.getD j false)) := fun q => BoolsAt.cell (hsm.next (HK.out.2 _ q.ok)).had hj2
      have HPI : Hid (∀ q : Hw S, Calls Try.prog 109 #[.pointer (some ⟨g, 0, none⟩), .int .i64 (i : Int)] q.w fun e w' => e = .returned (.bool (pubB ns bs i)) ∧ Below q.w.heap.size q.w w') := fun q => hasPub_any w1 g h ca ub pb a ns f bs L i _ hi2 (hsm.next (HK.out.2 _ q.ok))
      have HPJ : Hid (∀ q : Hw S, Calls Try.prog 109 #[.pointer (some ⟨g, 0, none⟩), .int .i64 (j : Int)] q.w fun e w' => e = .returned (.bool (pubB ns bs j)) ∧ Below q.w.heap.size q.w w') := fun q => hasPub_any w1 g h ca ub pb a ns f bs L j _ hj2 (hsm.next (HK.out.2 _ q.ok))
      clear hsm f
      generalize bs.getD i false = t1 at bI HM
      generalize bs.getD j false = t2 at bJ HM
      generalize pubB ns bs i = p3 at HPI HM
      generalize pubB ns bs j = p4 at HPJ HM
      have HPX : Hid (∀ (q : Hw S) (x : Int) (b : Bool), (x = (i : Int) ∧ b = p3 ∨ x = (j : Int) ∧ b = p4) → Calls Try.prog 109 #[.pointer (some ⟨g, 0, none⟩), .int .i64 x] q.w fun e w' => e = .returned (.bool b) ∧ Below q.w.heap.size q.w w') := fun q x b hh => by
        rcases hh with ⟨rfl, rfl⟩ | ⟨rfl, rfl⟩
        · exact HPI.out q
        · exact HPJ.out q
      clear cB cC c1 hn0 hsz
      cases t1
      · cases t2
        · go_enter Try.func89, Try.ntmps89
          go_wp2_with fail
          rw [HW0.out]
          refine wp_region_held (S := S) (by kernel_rfl) (by kernel_rfl) hS0 ?_
          repeat (go_big_quiet_step (fail))
          refine wpQuiet_nil ?_
          rintro _ ⟨sw, rfl⟩
          have hB := HK.out.2 _ sw.ok
          have HF : Hid (Below w.heap.size w sw.w) := HE.out.trans (hB.mono HE.out.size)
          clear HK q1 d2 d3 bI bJ HPI HPJ HPX hS0 hB
          go_wp2
          go_ret
          exact ⟨by rw [HM.out]; try rfl, HF.out⟩
        · go_enter Try.func89, Try.ntmps89
          go_wp2_with fail
          rw [HW0.out]
          refine wp_region_held (S := S) (by kernel_rfl) (by kernel_rfl) hS0 ?_
          repeat (go_big_quiet_step ((go_at_call 109; exact Calls.held (HPI.out _) (HK.out.1 _))))
          refine wpQuiet_nil ?_
          rintro _ ⟨sw, rfl⟩
          have hB := HK.out.2 _ sw.ok
          have HF : Hid (Below w.heap.size w sw.w) := HE.out.trans (hB.mono HE.out.size)
          clear HK q1 d2 d3 bI bJ HPI HPJ HPX hS0 hB
          go_wp2
          go_ret
          exact ⟨by rw [HM.out]; try rfl, HF.out⟩
      · cases p4
        · cases t2
          · go_enter Try.func89, Try.ntmps89
            go_wp2_with fail
            rw [HW0.out]
            refine wp_region_held (S := S) (by kernel_rfl) (by kernel_rfl) hS0 ?_
            repeat (go_big_quiet_step ((go_at_call 109; exact Calls.held (HPJ.out _) (HK.out.1 _))))
            refine wpQuiet_nil ?_
            rintro _ ⟨sw, rfl⟩
            have hB := HK.out.2 _ sw.ok
            have HF : Hid (Below w.heap.size w sw.w) := HE.out.trans (hB.mono HE.out.size)
            clear HK q1 d2 d3 bI bJ HPI HPJ HPX hS0 hB
            go_wp2
            go_ret
            exact ⟨by rw [HM.out]; try rfl, HF.out⟩
          · go_enter Try.func89, Try.ntmps89
            go_wp2_with fail
            rw [HW0.out]
            refine wp_region_held (S := S) (by kernel_rfl) (by kernel_rfl) hS0 ?_
            repeat (go_big_quiet_step ((go_at_call 109; first | (refine Calls.held (HPX.out _ _ p3 ?_) (HK.out.1 _); exact .inl ⟨rfl, rfl⟩) | (refine Calls.held (HPX.out _ _ false ?_) (HK.out.1 _); exact .inr ⟨rfl, rfl⟩))))
            refine wpQuiet_nil ?_
            rintro _ ⟨sw, rfl⟩
            have hB := HK.out.2 _ sw.ok
            have HF : Hid (Below w.heap.size w sw.w) := HE.out.trans (hB.mono HE.out.size)
            clear HK q1 d2 d3 bI bJ HPI HPJ HPX hS0 hB
            go_wp2
            go_ret
            exact ⟨by rw [HM.out]; try rfl, HF.out⟩
        · go_enter Try.func89, Try.ntmps89
          go_wp2_with fail
          rw [HW0.out]
          refine wp_region_held (S := S) (by kernel_rfl) (by kernel_rfl) hS0 ?_
          repeat (go_big_quiet_step ((go_at_call 109; exact Calls.held (HPJ.out _) (HK.out.1 _))))
          refine wpQuiet_nil ?_
          rintro _ ⟨sw, rfl⟩
          have hB := HK.out.2 _ sw.ok
          have HF : Hid (Below w.heap.size w sw.w) := HE.out.trans (hB.mono HE.out.size)
          clear HK q1 d2 d3 bI bJ HPI HPJ HPX hS0 hB
          go_wp2
          go_ret
          exact ⟨by rw [HM.out]; try rfl, HF.out⟩
    · have HM : Hid (madeB ns bs ⟨xk, 0, (i : Int), (j : Int)⟩ = (bs.getD i false && bs.getD j false)) := by show _ = _; unfold madeB; rw [if_neg hkk1, if_neg (by rw [HO.out]; simp), if_neg h77]; simp
      generalize bs.getD i false = t1 at HM cB
      generalize bs.getD j false = t2 at HM cC
      clear hn HS s f HBX hsz h6
      cases t1
      all_goals
        go_enter Try.func89, Try.ntmps89
        go_wp2_with fail
        go_quiet (fail)
        go_wp2
        go_ret
        exact ⟨by rw [HM.out]; rfl, by first | exact HE.out.drew | exact below_dn HE.out _⟩
end Go.Proofs.Ytcmmbehnihelcaa
