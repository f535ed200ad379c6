/- The contracts of PartsOf (chapter 1). -/
import Derived.Test.YtbnpllcmjkapmakDoorProg
import Derived.Test.YtbnpllcmjkapmakDoorShelf
import Derived.Test.YtbnpllcmjkapmakDoorItoaW
import Derived.Test.YtbnpllcmjkapmakDoorMarkW
import Derived.Lib.Fields
import Derived.WalkKit
import Derived.WalkLawsBesides
import Derived.WalkSpells
import Derived.Laws.OwnMore
namespace Go.Proofs.YtbnpllcmjkapmakDoor
open Go.RowKit Go.PlainAid

theorem Tryd.info9 : (Tryd.prog.info? 9).map (fun i => (i.zero, i.size, i.bytes)) = some (some (.string ByteArray.empty), 1, 16) := by kernel_rfl

def PlainTo (s : ByteArray) (k : Nat) : Prop := ∀ j, j < k → j < s.size → 32 ≤ bt s j ∧ bt s j ≤ 126

set_option maxHeartbeats 400000 in
theorem isPlain_any (s : ByteArray) (w : World) (hs : s.size ≤ 1048576) :
    Calls Tryd.prog 14 #[.string s] w fun e w' => (e = .returned (.bool true) ∧ PlainTo s s.size ∨ e = .returned (.bool false) ∧ ¬ PlainTo s s.size) ∧ w = w' := by
  go_enter Tryd.func14, Tryd.ntmps14
  go_wp2
  go_loop [3] (fun i => ∃ k : Nat, k ≤ s.size ∧ i = .int .i64 (k : Int) ∧ PlainTo s k)
    (fun i => s.size - (intOf i).toNat)
  case atStart => exact ⟨0, Nat.zero_le _, rfl, fun j hj => absurd hj (by omega)⟩
  case round =>
    obtain ⟨k, hk, rfl, hall⟩ := hrel
    have HA : Hid (PlainTo s k) := hall
    clear hall
    have hg := get_bt s
    by_cases hlt : k < s.size
    · have hb0 := bt_nonneg s k
      have hb1 := bt_le s k
      by_cases hd : bt s k < 32
      · have hno : Hid (¬ PlainTo s s.size) := fun h => by have := h k hlt hlt; omega
        go_wp2
        go_ret
        exact ⟨Or.inr ⟨rfl, hno.out⟩, rfl⟩
      · by_cases hd2 : 126 < bt s k
        · have hno : Hid (¬ PlainTo s s.size) := fun h => by have := h k hlt hlt; omega
          go_wp2
          go_ret
          exact ⟨Or.inr ⟨rfl, hno.out⟩, rfl⟩
        · have HA' : Hid (PlainTo s (k + 1)) := fun j hj hjs => by
            by_cases e : j = k
            · subst e; omega
            · exact HA.out j (by omega) hjs
          go_wp2
          go_round
          case rel => exact ⟨k + 1, by omega, by go_num, HA'.out⟩
          case measure => simp [intOf]; omega
    · obtain rfl : k = s.size := by omega
      go_wp2
      go_ret
      exact ⟨Or.inl ⟨rfl, HA.out⟩, rfl⟩

open Classical in
/-- PartsOf's answer. -/
noncomputable def PO (s : ByteArray) : Option (List (List UInt8)) := if s.size ≤ 600 ∧ PlainTo s s.size ∧ (Lib.fields s.data.toList).length ≤ 10 then some (Lib.fields s.data.toList) else none
def toB (l : List UInt8) : ByteArray := ⟨l.toArray⟩
noncomputable def psOf (s : ByteArray) : List ByteArray := ((PO s).getD []).map toB
theorem PO_yes {s : ByteArray} (h : s.size ≤ 600) (h1 : PlainTo s s.size) (h2 : (Lib.fields s.data.toList).length ≤ 10) : PO s = some (Lib.fields s.data.toList) := by unfold PO; rw [if_pos ⟨h, h1, h2⟩]
theorem PO_no {s : ByteArray} (h : ¬ (s.size ≤ 600 ∧ PlainTo s s.size ∧ (Lib.fields s.data.toList).length ≤ 10)) : PO s = none := by unfold PO; rw [if_neg h]

/-- Where the walk over the bytes stands: k bytes gone through, a part begins at b, 'done' are the parts told so far. -/
structure PI (s : ByteArray) (k b : Nat) (done : List (List UInt8)) : Prop where
  inn : k ≤ s.size → done ++ Lib.fieldsGo ((s.data.toList.take k).drop b) (s.data.toList.drop k) = Lib.fields s.data.toList
  out : k = s.size + 1 → done = Lib.fields s.data.toList

theorem drop_cons {s : ByteArray} {k : Nat} (h : k < s.size) : s.data.toList.drop k = (s[k]'h) :: s.data.toList.drop (k + 1) := by
  rw [List.drop_eq_getElem_cons (by simpa using h)]; rfl
theorem take_drop_succ {s : ByteArray} {k b : Nat} (h : k < s.size) (hb : b ≤ k) : (s.data.toList.take (k + 1)).drop b = (s.data.toList.take k).drop b ++ [s[k]'h] := by
  rw [List.take_succ_eq_append_getElem (by simpa using h), List.drop_append_of_le_length (by simp; have : k < s.data.size := h; omega)]; rfl
theorem isSp_of {s : ByteArray} {k : Nat} (h : k < s.size) (h0 : 32 ≤ bt s k) : Lib.isSp (s[k]'h) = decide (bt s k = 32) := by
  have e := get_bt s k h
  unfold Lib.isSp
  have hb : ∀ c : UInt8, (s[k]'h == c) = decide (bt s k = (c.toNat : Int)) := fun c => by
    rw [Bool.eq_iff_iff, beq_iff_eq, decide_eq_true_iff, ← e]
    constructor
    · intro h1; rw [h1]
    · intro h1; exact UInt8.toNat_inj.mp (by omega)
  rw [hb, hb, hb, hb, hb, hb]
  have h1 : ∀ n : Int, n < 32 → decide (bt s k = n) = false := fun n hn => by simp; omega
  rw [h1 _ (by decide), h1 _ (by decide), h1 _ (by decide), h1 _ (by decide), h1 _ (by decide)]
  simp
theorem PI_start (s : ByteArray) : PI s 0 0 [] := ⟨fun _ => by simp [Lib.fields], fun h => absurd h (by omega)⟩
theorem PI_go {s : ByteArray} {k b : Nat} {done : List (List UInt8)} (h : k < s.size) (hb : b ≤ k) (h0 : 32 ≤ bt s k) (h1 : bt s k ≠ 32) (p : PI s k b done) : PI s (k + 1) b done := by
  refine ⟨fun _ => ?_, fun e => absurd e (by omega)⟩
  rw [← p.inn (by omega), take_drop_succ h hb, drop_cons h, Lib.fieldsGo, isSp_of h h0, if_neg (by simpa using h1)]
theorem cur_empty {s : ByteArray} {k b : Nat} (hk : k ≤ s.size) : ((s.data.toList.take k).drop b).isEmpty = decide (k ≤ b) := by
  rw [Bool.eq_iff_iff, List.isEmpty_iff, decide_eq_true_iff, ← List.length_eq_zero_iff, List.length_drop, List.length_take]
  have : s.data.toList.length = s.size := by simp
  omega
theorem PI_cut {s : ByteArray} {k b : Nat} {done : List (List UInt8)} (h : k < s.size) (h1 : bt s k = 32) (p : PI s k b done) :
    PI s (k + 1) (k + 1) (if k ≤ b then done else done ++ [(s.data.toList.take k).drop b]) := by
  refine ⟨fun _ => ?_, fun e => absurd e (by omega)⟩
  have := p.inn (by omega)
  rw [drop_cons h, Lib.fieldsGo, isSp_of h (by omega), if_pos (by simpa using h1), cur_empty (by omega)] at this
  have e0 : (s.data.toList.take (k + 1)).drop (k + 1) = [] := List.drop_eq_nil_of_le (by simp; omega)
  rw [e0, ← this]
  by_cases hkb : k ≤ b
  · simp [hkb]
  · simp [hkb]
theorem PI_end {s : ByteArray} {b : Nat} {done : List (List UInt8)} (p : PI s s.size b done) :
    PI s (s.size + 1) (s.size + 1) (if s.size ≤ b then done else done ++ [(s.data.toList.take s.size).drop b]) := by
  refine ⟨fun e => absurd e (by omega), fun _ => ?_⟩
  have := p.inn (Nat.le_refl _)
  have e0 : s.data.toList.drop s.size = [] := List.drop_eq_nil_of_le (by simp)
  have hce := cur_empty (s := s) (k := s.size) (b := b) (Nat.le_refl _)
  rw [e0, Lib.fieldsGo, hce] at this
  rw [← this]
  by_cases hkb : s.size ≤ b
  · simp [hkb]
  · simp [hkb]
theorem extract_cur (s : ByteArray) (b k : Nat) : s.extract b k = toB ((s.data.toList.take k).drop b) := by
  apply Go.WideShapes.bytes_inj
  rw [Lib.extract_data]; unfold toB
  simp [List.drop_take]

def strs (done : List (List UInt8)) : List Value := (done.map toB).map Value.string
theorem own_part {B : Nat} {w : World} {v : Value} {e : Nat} {done : List (List UInt8)} {c : List UInt8} (h : w.ownsRow B e 1 v (done.length + 1) (strs done ++ [.string (toB c)])) :
    w.ownsRow B e 1 v (done ++ [c]).length (strs (done ++ [c])) := by
  unfold strs at *; rw [List.length_append, List.map_append, List.map_append]; exact h

theorem own_shape {B : Nat} {w : World} {v : Value} {e size n : Nat} {xs : List Value} (h : w.ownsRow B e size v n xs) : ∃ a cap, v = .slice a n cap := by
  rcases h.2 with ⟨rfl, rfl⟩ | ⟨g, cap, cur, rfl, _⟩
  · exact ⟨none, 0, rfl⟩
  · exact ⟨_, cap, rfl⟩

theorem own_base {B B' : Nat} {w : World} {v : Value} {e size n : Nat} {xs : List Value} (h : w.ownsRow B e size v n xs) (hB : B' ≤ B) : w.ownsRow B' e size v n xs := by
  refine ⟨h.1, ?_⟩
  rcases h.2 with h1 | ⟨g, cap, cur, h1, h2, h3⟩
  · exact .inl h1
  · exact .inr ⟨g, cap, cur, h1, by omega, h3⟩

theorem specParts_big (s : ByteArray) (w : World) (hs : s.size ≤ 1048576) (h : 600 < s.size) :
    Calls Tryd.prog 7 #[.string s] w fun e w' => ∃ v, e = .returned (.tuple #[v, .bool (PO s).isSome]) ∧ w'.ownsRow w.heap.size 9 1 v (psOf s).length ((psOf s).map Value.string) ∧ Below w.heap.size w w' := by
  have hn : PO s = none := PO_no (by omega)
  have hp : psOf s = [] := by unfold psOf; rw [hn]; rfl
  rw [hp, hn]
  have h' : (600 : Int) < (s.size : Int) := by omega
  go_enter Tryd.func7, Tryd.ntmps7
  go_wp2
  go_ret2
  exact ⟨_, rfl, World.ownsRow_made _ _ _ (Nat.le_refl _) (by decide) rfl, (Below.refl _ _).alloc (Nat.le_refl _) _⟩

set_option maxHeartbeats 1600000 in
theorem specParts_small (s : ByteArray) (w : World) (h : s.size ≤ 600) :
    Calls Tryd.prog 7 #[.string s] w fun e w' => ∃ v, e = .returned (.tuple #[v, .bool (PO s).isSome]) ∧ w'.ownsRow w.heap.size 9 1 v (psOf s).length ((psOf s).map Value.string) ∧ Below w.heap.size w w' := by
  obtain ⟨i0, hi, hz0, hz1, hz2⟩ := info_parts Tryd.info9
  have h' : ¬ (600 : Int) < (s.size : Int) := by omega
  obtain ⟨ps, hps⟩ : ∃ ps, ps = psOf s := ⟨_, rfl⟩
  obtain ⟨ok, hok⟩ : ∃ ok, ok = (PO s).isSome := ⟨_, rfl⟩
  rw [← hps, ← hok]
  have HPS : Hid (ps = psOf s) := hps
  have HOK : Hid (ok = (PO s).isSome) := hok
  clear hps hok
  go_enter Tryd.func7, Tryd.ntmps7
  go_wp2
  clear h'
  go_loopw [4, 5, 6] (fun v bg i wr => ∃ (k b : Nat) (done : List (List UInt8)), k ≤ s.size + 1 ∧ b ≤ k ∧ done.length ≤ k ∧ i = .int .i64 (k : Int) ∧ bg = .int .i64 (b : Int) ∧ wr.ownsRow w.heap.size 9 1 v done.length (strs done) ∧ Below w.heap.size w wr ∧ PlainTo s k ∧ PI s k b done)
    (fun _ _ i _ => s.size + 1 - (intOf i).toNat)
  case atStart => exact ⟨0, 0, [], by omega, by omega, by simp, rfl, rfl, World.ownsRow_made _ _ _ (Nat.le_refl _) (by decide) rfl, (Below.refl _ _).alloc (Nat.le_refl _) _, fun j hj => absurd hj (by omega), PI_start s⟩
  case round =>
    obtain ⟨k, b, done, hk, hbk, hdl, rfl, rfl, hown, hbel, hall, hpi⟩ := hrel
    have HA : Hid (PlainTo s k) := hall
    have HP : Hid (PI s k b done) := hpi
    clear hall hpi
    have hg := get_bt s
    have hsz := hbel.size
    by_cases hlt : k < s.size
    · have hb0 := bt_nonneg s k
      have hb1 := bt_le s k
      by_cases hbad : bt s k < 32 ∨ 126 < bt s k
      · have hn : PO s = none := PO_no (by rintro ⟨_, h2, _⟩; have := h2 k hlt hlt; omega)
        have hp : ps = [] := by rw [HPS.out]; unfold psOf; rw [hn]; rfl
        have ho : ok = false := by rw [HOK.out, hn]; rfl
        subst hp ho
        rcases hbad with hbad | hbad
        · go_wp2
          go_ret2
          exact ⟨_, rfl, World.ownsRow_made _ _ _ hsz (by decide) rfl, hbel.alloc hsz _⟩
        · have hbad' : ¬ bt s k < 32 := by omega
          go_wp2
          go_ret2
          exact ⟨_, rfl, World.ownsRow_made _ _ _ hsz (by decide) rfl, hbel.alloc hsz _⟩
      · have hp0 : 32 ≤ bt s k := by omega
        have hp1 : bt s k ≤ 126 := by omega
        clear hbad
        have HA' : Hid (PlainTo s (k + 1)) := fun j hj hjs => by
          by_cases e : j = k
          · subst e; omega
          · exact HA.out j (by omega) hjs
        clear HA
        by_cases hsp : bt s k = 32
        · have HC := PI_cut hlt hsp HP.out
          have hne : (bt s k != 32) = false := by rw [hsp]; rfl
          have HSP : Hid (bt s k = 32) := hsp
          clear hsp HP
          by_cases hkb : b < k
          · rw [if_neg (by omega)] at HC
            have hsl : ∀ wx, (Instr.slice 9 (.string s) (some (.int .i64 (b : Int))) (some (.int .i64 (k : Int))) none).run Tryd.prog wx = .ok (.string (toB ((s.data.toList.take k).drop b))) wx := by
              intro wx
              rw [run_slice_string wx 9 s .i64 .i64 (b : Int) (k : Int) Tryd.underlying9 (by omega) (by omega) (by omega), show ((b : Int)).toNat = b by omega, show ((k : Int)).toNat = k by omega, extract_cur]
            obtain ⟨c, hcdef⟩ : ∃ c, c = (s.data.toList.take k).drop b := ⟨_, rfl⟩
            rw [← hcdef] at hsl HC
            have HC' : Hid _ := HC
            have HCD : Hid (c = (s.data.toList.take k).drop b) := hcdef
            clear HC hcdef
            go_wp2_with (at_builtin; refine wpList_append_own _ rfl _ _ 24 rfl w.heap.size 9 i0 (.string ByteArray.empty) 1 16 Tryd.underlying24 hi hz0 hz1 hz2 rfl (by decide) _ _ _ rfl (hown.alloc _) ⟨wr.heap.size, 0, none⟩ 1 1 [.string (toB c)] rfl rfl ?c1 ?c2 ?c3 ?c4 ?c5 ?_)
            case c1 => exact cell_one_new _ _ _
            case c2 => first | rfl | (intro u hu; simp at hu; subst hu; rfl)
            case c3 => unfold maxLen; omega
            case c4 => omega
            case c5 => first | omega | (simp; omega)
            · intro v' w1 hown' hgrow _
              have hB := below_app hown hbel hsz hgrow
              have ho := own_part hown'
              clear hown' hgrow hown hbel hsl
              go_wp2
              go_roundw
              case rel => exact ⟨k + 1, k + 1, done ++ [c], by omega, by omega, by simp; omega, by go_num, by go_num, ho, hB, HA'.out, HC'.out⟩
              case measure => simp [intOf]; omega
          · rw [if_pos (by omega)] at HC
            have HC' : Hid _ := HC
            clear HC
            go_wp2
            go_roundw
            case rel => exact ⟨k + 1, k + 1, done, by omega, by omega, by omega, by go_num, by go_num, hown, hbel, HA'.out, HC'.out⟩
            case measure => simp [intOf]; omega
        · have hne : (bt s k != 32) = true := by simpa using hsp
          have HC : Hid _ := PI_go hlt hbk hp0 hsp HP.out
          clear hsp HP
          go_wp2
          go_roundw
          case rel => exact ⟨k + 1, b, done, by omega, by omega, by omega, by go_num, rfl, hown, hbel, HA'.out, HC.out⟩
          case measure => simp [intOf]; omega
    · by_cases heq : k < s.size + 1
      · obtain rfl : k = s.size := by omega
        have HC := PI_end HP.out
        have HA' : Hid (PlainTo s (s.size + 1)) := fun j _ hjs => HA.out j hjs hjs
        have hd1 : decide ((s.size : Int) < (s.size : Int)) = false := by simp
        obtain ⟨k, hkdef⟩ : ∃ k, k = s.size := ⟨_, rfl⟩
        clear HP HA
        by_cases hkb : b < s.size
        · rw [if_neg (by omega)] at HC
          rw [← hkdef] at HC HA' hdl hbk hkb
          have hsl : ∀ wx, (Instr.slice 9 (.string s) (some (.int .i64 (b : Int))) (some (.int .i64 (s.size : Int))) none).run Tryd.prog wx = .ok (.string (toB ((s.data.toList.take k).drop b))) wx := by
            intro wx
            rw [run_slice_string wx 9 s .i64 .i64 (b : Int) (s.size : Int) Tryd.underlying9 (by omega) (by omega) (by omega), show ((b : Int)).toNat = b by omega, show ((s.size : Int)).toNat = k by omega, extract_cur]
          obtain ⟨c, hcdef⟩ : ∃ c, c = (s.data.toList.take k).drop b := ⟨_, rfl⟩
          rw [← hcdef] at hsl HC
          rw [hkdef] at HC HA' hdl hbk hkb
          have HC' : Hid _ := HC
          clear HC hcdef hkdef
          go_wp2_with (at_builtin; refine wpList_append_own _ rfl _ _ 24 rfl w.heap.size 9 i0 (.string ByteArray.empty) 1 16 Tryd.underlying24 hi hz0 hz1 hz2 rfl (by decide) _ _ _ rfl (hown.alloc _) ⟨wr.heap.size, 0, none⟩ 1 1 [.string (toB c)] rfl rfl ?c1e ?c2e ?c3e ?c4e ?c5e ?_)
          case c1e => exact cell_one_new _ _ _
          case c2e => first | rfl | (intro u hu; simp at hu; subst hu; rfl)
          case c3e => unfold maxLen; omega
          case c4e => omega
          case c5e => first | omega | (simp; omega)
          · intro v' w1 hown' hgrow _
            have hB := below_app hown hbel hsz hgrow
            have ho := own_part hown'
            clear hown' hgrow hown hbel hsl
            go_wp2
            go_roundw
            case rel => exact ⟨s.size + 1, s.size + 1, done ++ [c], by omega, by omega, by simp; omega, by go_num, by go_num, ho, hB, HA'.out, HC'.out⟩
            case measure => simp [intOf]
        · rw [if_pos (by omega)] at HC
          have HC' : Hid _ := HC
          clear HC hkdef
          go_wp2
          go_roundw
          case rel => exact ⟨s.size + 1, s.size + 1, done, by omega, by omega, by omega, by go_num, by go_num, hown, hbel, HA'.out, HC'.out⟩
          case measure => simp [intOf]
      · obtain rfl : k = s.size + 1 := by omega
        have hfin := HP.out.out rfl
        have hplain : PlainTo s s.size := fun j _ hjs => HA.out j (by omega) hjs
        obtain ⟨av, cap, rfl⟩ := own_shape hown
        subst hfin
        by_cases h10 : 10 < (Lib.fields s.data.toList).length
        · have hn : PO s = none := PO_no (by omega)
          have hp : ps = [] := by rw [HPS.out]; unfold psOf; rw [hn]; rfl
          have ho : ok = false := by rw [HOK.out, hn]; rfl
          subst hp ho
          clear HP HA hplain
          go_wp2
          go_ret2
          exact ⟨_, rfl, World.ownsRow_made _ _ _ hsz (by decide) rfl, hbel.alloc hsz _⟩
        · have hn : PO s = some _ := PO_yes h hplain (by omega)
          have hp : ps = (Lib.fields s.data.toList).map toB := by rw [HPS.out]; unfold psOf; rw [hn]; rfl
          have ho : ok = true := by rw [HOK.out, hn]; rfl
          subst hp ho
          clear HP HA hplain hn
          go_wp2
          go_ret2
          exact ⟨_, rfl, by rw [List.length_map]; exact hown, hbel⟩

theorem clone_any (s : ByteArray) (w : World) (hs : s.size ≤ 1048576) :
    Calls Tryd.prog 16 #[.string s] w fun e w' => e = .returned (.string s) ∧ Below w.heap.size w w' := by
  go_enter Tryd.func16, Tryd.ntmps16
  go_wp2_with (go_at_call 21; refine (Tryd.stringslite_Clone s _ (by omega)).mono ?_; rintro e w' ⟨rfl, hb⟩)
  go_ret
  exact ⟨rfl, hb⟩

theorem gSpace : Tryd.prog.globalNamed "strings.asciiSpace" = some 0 := by kernel_rfl

theorem fields_len (s : ByteArray) : (Lib.fields s.data.toList).length ≤ s.size + 1 := by
  have h1 := Lib.fieldsGo_length s.data.toList []
  have h2 : ∀ (l : List UInt8) (b : Bool), Lib.cntF b l ≤ l.length := by
    intro l
    induction l with
    | nil => intro b; simp [Lib.cntF]
    | cons x l ih => intro b; have := ih (Lib.isSp x); simp only [Lib.cntF, List.length_cons]; split <;> omega
  have h3 := h2 s.data.toList ([] : List UInt8).isEmpty
  have h4 : s.data.toList.length = s.size := by simp
  unfold Lib.fields
  rw [h1]; simp at h3 ⊢; omega

theorem fields_any (s : ByteArray) (w : World) (hs : s.size ≤ 600) (hp : PlainTo s s.size) (htab : Lib.TabIs Tryd.prog w "strings.asciiSpace" .u8 Lib.asciiSpaceTab) :
    Calls Tryd.prog 15 #[.string s] w fun e w' => ∃ v, e = .returned v ∧ w'.ownsRow w.heap.size 9 1 v (Lib.fields s.data.toList).length (strs (Lib.fields s.data.toList)) ∧ Below w.heap.size w w' := by
  have hf := Tryd.strings_Fields_laid s w (by omega) (fun j b hj => by
    have hjs : j < s.size := by
      rcases Nat.lt_or_ge j s.size with h | h
      · exact h
      · rw [List.getElem?_eq_none (by simpa using h)] at hj; simp at hj
    have e := get_bt s j hjs
    have hb : b = s[j]'hjs := by
      rw [List.getElem?_eq_getElem (by simpa using hjs)] at hj; exact (Option.some.inj hj).symm
    have := hp j hjs hjs
    subst hb; omega) htab
  have hlen := fields_len s
  refine hf.mono fun e w' ⟨h1, h2⟩ => ⟨_, h1, ?_, ?_⟩
  · subst h2
    have := World.ownsRow_lit (base := w.heap.size) (e := 9) (size := 1) w ((Lib.fields s.data.toList).map fun l => Value.string ⟨l.toArray⟩).toArray (Lib.fields s.data.toList).length (Nat.le_refl _) (by unfold maxLen; omega) (by simp)
    have e : strs (Lib.fields s.data.toList) = ((Lib.fields s.data.toList).map fun l => Value.string ⟨l.toArray⟩) := by unfold strs toB; rw [List.map_map]; rfl
    rw [e]; simpa using this
  · subst h2; exact (Below.refl _ _).alloc (Nat.le_refl _) _

theorem implParts (s : ByteArray) (w : World) (hs : s.size ≤ 1048576) (htab : Lib.TabIs Tryd.prog w "strings.asciiSpace" .u8 Lib.asciiSpaceTab) :
    Calls Tryd.prog 8 #[.string s] w fun e w' => ∃ v, e = .returned (.tuple #[v, .bool (PO s).isSome]) ∧ w'.ownsRow w.heap.size 9 1 v (psOf s).length ((psOf s).map Value.string) ∧ Below w.heap.size w w' := by
  obtain ⟨ps, hps⟩ : ∃ ps, ps = psOf s := ⟨_, rfl⟩
  obtain ⟨ok, hok⟩ : ∃ ok, ok = (PO s).isSome := ⟨_, rfl⟩
  rw [← hps, ← hok]
  have HPS : Hid (ps = psOf s) := hps
  have HOK : Hid (ok = (PO s).isSome) := hok
  have HT : Hid (Lib.TabIs Tryd.prog w "strings.asciiSpace" .u8 Lib.asciiSpaceTab) := htab
  clear hps hok htab
  by_cases h6 : 600 < s.size
  · have hn : PO s = none := PO_no (by omega)
    have hp : ps = [] := by rw [HPS.out]; unfold psOf; rw [hn]; rfl
    have ho : ok = false := by rw [HOK.out, hn]; rfl
    subst hp ho
    have h' : (600 : Int) < (s.size : Int) := by omega
    go_enter Tryd.func8, Tryd.ntmps8
    go_wp2
    go_ret2
    exact ⟨_, rfl, World.ownsRow_nil _ _ _ _, Below.refl _ _⟩
  · have h' : ¬ (600 : Int) < (s.size : Int) := by omega
    go_enter Tryd.func8, Tryd.ntmps8
    go_wp2_with fail
    refine (isPlain_any s _ hs).mono ?_
    rintro e w1 ⟨(⟨rfl, hpl⟩ | ⟨rfl, hpl⟩), rfl⟩
    · have HPL : Hid (PlainTo s s.size) := hpl
      clear hpl
      go_wp2_with fail
      refine (clone_any s _ hs).mono ?_
      rintro e w1 ⟨rfl, hb1⟩
      go_wp2_with fail
      refine (fields_any s _ (by omega) HPL.out (tab_below gSpace HT.out hb1)).mono ?_
      rintro e w2 ⟨v, rfl, hown, hb2⟩
      have hB : Below w.heap.size w w2 := hb1.trans (hb2.mono hb1.size)
      have hown' : w2.ownsRow w.heap.size 9 1 v (Lib.fields s.data.toList).length (strs (Lib.fields s.data.toList)) := own_base hown hb1.size
      obtain ⟨av, cap, rfl⟩ := own_shape hown
      have hfl := fields_len s
      by_cases h10 : 10 < (Lib.fields s.data.toList).length
      · have hn : PO s = none := PO_no (by omega)
        have hp : ps = [] := by rw [HPS.out]; unfold psOf; rw [hn]; rfl
        have ho : ok = false := by rw [HOK.out, hn]; rfl
        subst hp ho
        go_wp2
        go_ret2
        exact ⟨_, rfl, World.ownsRow_nil _ _ _ _, hB⟩
      · have hn : PO s = some _ := PO_yes (by omega) HPL.out (by omega)
        have hp : ps = (Lib.fields s.data.toList).map toB := by rw [HPS.out]; unfold psOf; rw [hn]; rfl
        have ho : ok = true := by rw [HOK.out, hn]; rfl
        subst hp ho
        clear hn
        go_wp2
        go_ret2
        exact ⟨_, rfl, by rw [List.length_map]; exact hown', hB⟩
    · have hn : PO s = none := PO_no (fun h => hpl h.2.1)
      have hp : ps = [] := by rw [HPS.out]; unfold psOf; rw [hn]; rfl
      have ho : ok = false := by rw [HOK.out, hn]; rfl
      subst hp ho
      clear hpl hn
      go_wp2
      go_ret2
      exact ⟨_, rfl, World.ownsRow_nil _ _ _ _, Below.refl _ _⟩
end Go.Proofs.YtbnpllcmjkapmakDoor
