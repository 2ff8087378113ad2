/- desc: a right device's text is read as that device. -/
import Derived.Test.YtonheibhbilhhaaZBc
import Derived.Test.YtonheibhbilhhaaZBb
import Derived.Test.YtonheibhbilhhaaZAg
import Derived.Test.YtonheibhbilhhaaZBd
import Derived.Deep.QuietTactic
import Derived.BigQuiet
import Derived.Lib.Bytealg
namespace Go.Proofs.Ytonheibhbilhhaa.desc
open Go.RowKit Go.PlainAid Go.Proofs.Ytonheibhbilhhaa.lane

theorem devL_length (d : Dv) : (devL d).length = 18 := rfl
theorem devL_byt {d : Dv} (h : devOk d = true) : Byt (devL d) := by
  obtain ⟨h0, ⟨h1, h2, h3, h4, h5, h6, h7⟩, ⟨k1, k2, k3, k4⟩, _⟩ := (devOk_iff d).1 h
  intro x hx
  simp only [devL, wrd, List.cons_append, List.nil_append, List.mem_cons, List.not_mem_nil, or_false] at hx
  omega
theorem devO_devL {d : Dv} (h : devOk d = true) : devO (strOfNums (devL d)) = d := by
  have hb := devL_byt h
  have hg : ∀ k, k < 18 → bt (strOfNums (devL d)) k = (devL d).getD k 0 := fun k hk => getD_bt _ hb k (by rw [devL_length]; exact hk)
  have hs : (strOfNums (devL d)).size = 18 := by rw [str_size, devL_length]
  have hw : ∀ k, k + 1 < 18 → wdOf ((strOfNums (devL d)).extract k (strOfNums (devL d)).size) = (devL d).getD k 0 + 256 * (devL d).getD (k + 1) 0 := fun k hk => by
    unfold wdOf
    rw [bt_extract _ k 0 (by omega), bt_extract _ k 1 (by omega), Nat.add_zero, hg k (by omega), hg (k + 1) hk]
  unfold devO
  rw [hw 2 (by omega), hw 8 (by omega), hw 10 (by omega), hw 12 (by omega), hg 4 (by omega), hg 5 (by omega), hg 6 (by omega), hg 7 (by omega), hg 14 (by omega), hg 15 (by omega), hg 16 (by omega), hg 17 (by omega)]
  obtain ⟨_, _, ⟨k1, k2, k3, k4⟩, _⟩ := (devOk_iff d).1 h
  obtain ⟨us, cl, su, pr, m0, ve, pd, re, ma, nm, se, cf⟩ := d
  simp only [devL, wrd, List.cons_append, List.nil_append, List.getD, List.getElem?_cons_succ, List.getElem?_cons_zero, Option.getD_some] at *
  rw [show us % 256 + 256 * (us / 256) = us by omega, show ve % 256 + 256 * (ve / 256) = ve by omega, show pd % 256 + 256 * (pd / 256) = pd by omega, show re % 256 + 256 * (re / 256) = re by omega]
theorem rd_devL {d : Dv} (h : devOk d = true) : rdD (strOfNums (devL d)) = d ∧ rdE (strOfNums (devL d)) = 0 := by
  have hs : (strOfNums (devL d)).size = 18 := by rw [str_size, devL_length]
  have hi : isDev (strOfNums (devL d)) = true := by
    unfold isDev
    rw [devO_devL h, h]
    simp
  have hn : ¬ (strOfNums (devL d)).size < 18 := by omega
  unfold rdD rdE
  rw [if_neg hn, if_neg hn, if_pos hi, if_pos hi, devO_devL h]
  exact ⟨rfl, rfl⟩
end Go.Proofs.Ytonheibhbilhhaa.desc

/- devices, plain: what plugref asks of a device's text is what the program asks. -/
namespace Go.Proofs.Ytonheibhbilhhaa.desc
open Go.RowKit Go.PlainAid Go.Proofs.Ytonheibhbilhhaa.lane
set_option linter.unusedVariables false

/-- what plugref asks of a device's text -/
def isDevR (s : ByteArray) : Prop := s.size = 18 ∧ bt s 0 = 18 ∧ bt s 1 = 1 ∧ bt s 17 ≠ 0 ∧ (bt s 7 = 8 ∨ bt s 7 = 16 ∨ bt s 7 = 32 ∨ bt s 7 = 64)
theorem list18 (l : List Int) (h : l.length = 18) : l = [l.getD 0 0, l.getD 1 0, l.getD 2 0, l.getD 3 0, l.getD 4 0, l.getD 5 0, l.getD 6 0, l.getD 7 0, l.getD 8 0, l.getD 9 0, l.getD 10 0, l.getD 11 0, l.getD 12 0, l.getD 13 0, l.getD 14 0, l.getD 15 0, l.getD 16 0, l.getD 17 0] := by
  have : l = (List.range 18).map fun k => l.getD k 0 := by
    apply List.ext_getElem (by simp [h])
    intro i h1 h2
    simp [List.getD, h1]
  exact this
theorem wd_at (s : ByteArray) (k : Nat) (h : k + 1 < s.size) : wdOf (s.extract k s.size) = bt s k + 256 * bt s (k + 1) := by
  unfold wdOf
  rw [bt_extract _ k 0 (by omega), bt_extract _ k 1 (by omega), Nat.add_zero]
theorem isDev_R (s : ByteArray) (h : 18 ≤ s.size) : isDev s = true ↔ isDevR s := by
  unfold isDev isDevR
  rw [Bool.and_eq_true, decide_eq_true_eq]
  constructor
  · rintro ⟨h1, h2⟩
    have h3 := (devOk_iff _).1 h1
    have g : ∀ k, k < 18 → bt s k = (devL (devO s)).getD k 0 := fun k hk => by
      have := getD_bt (devL (devO s)) (devL_byt h1) k (by rw [devL_length]; exact hk)
      rw [h2] at this
      exact this
    refine ⟨by rw [← h2, str_size, devL_length], g 0 (by omega), g 1 (by omega), h3.2.2.2, h3.1⟩
  · rintro ⟨h1, h2, h3, h4, h5⟩
    have b : ∀ k, 0 ≤ bt s k ∧ bt s k ≤ 255 := fun k => ⟨bt_nonneg s k, bt_le s k⟩
    have w2 : wdOf (s.extract 2 s.size) = bt s 2 + 256 * bt s 3 := wd_at s 2 (by omega)
    have w8 : wdOf (s.extract 8 s.size) = bt s 8 + 256 * bt s 9 := wd_at s 8 (by omega)
    have w10 : wdOf (s.extract 10 s.size) = bt s 10 + 256 * bt s 11 := wd_at s 10 (by omega)
    have w12 : wdOf (s.extract 12 s.size) = bt s 12 + 256 * bt s 13 := wd_at s 12 (by omega)
    have b2 := b 2
    have b3 := b 3
    have b8 := b 8
    have b9 := b 9
    have b10 := b 10
    have b11 := b 11
    have b12 := b 12
    have b13 := b 13
    refine ⟨(devOk_iff _).2 ⟨h5, ⟨b 4, b 5, b 6, b 14, b 15, b 16, b 17⟩, ⟨?_, ?_, ?_, ?_⟩, h4⟩, ?_⟩
    · show 0 ≤ wdOf _ ∧ wdOf _ ≤ _; rw [w2]; omega
    · show 0 ≤ wdOf _ ∧ wdOf _ ≤ _; rw [w8]; omega
    · show 0 ≤ wdOf _ ∧ wdOf _ ≤ _; rw [w10]; omega
    · show 0 ≤ wdOf _ ∧ wdOf _ ≤ _; rw [w12]; omega
    · have e := list18 (nums s) (by rw [nums_length]; exact h1)
      have b' : ∀ k, k < 18 → (nums s).getD k 0 = bt s k := fun k hk => (bt_nums s k (by omega)).symm
      rw [b' 0 (by omega), b' 1 (by omega), b' 2 (by omega), b' 3 (by omega), b' 4 (by omega), b' 5 (by omega), b' 6 (by omega), b' 7 (by omega), b' 8 (by omega), b' 9 (by omega), b' 10 (by omega), b' 11 (by omega), b' 12 (by omega), b' 13 (by omega), b' 14 (by omega), b' 15 (by omega), b' 16 (by omega), b' 17 (by omega)] at e
      have : devL (devO s) = nums s := by
        rw [e]
        show [18, 1] ++ wrd (wdOf _) ++ [bt s 4, bt s 5, bt s 6, bt s 7] ++ wrd (wdOf _) ++ wrd (wdOf _) ++ wrd (wdOf _) ++ [bt s 14, bt s 15, bt s 16, bt s 17] = _
        rw [w2, w8, w10, w12, h2, h3]
        simp only [wrd, List.cons_append, List.nil_append]
        rw [show (bt s 2 + 256 * bt s 3) % 256 = bt s 2 by omega, show (bt s 2 + 256 * bt s 3) / 256 = bt s 3 by omega, show (bt s 8 + 256 * bt s 9) % 256 = bt s 8 by omega, show (bt s 8 + 256 * bt s 9) / 256 = bt s 9 by omega,
          show (bt s 10 + 256 * bt s 11) % 256 = bt s 10 by omega, show (bt s 10 + 256 * bt s 11) / 256 = bt s 11 by omega, show (bt s 12 + 256 * bt s 13) % 256 = bt s 12 by omega, show (bt s 12 + 256 * bt s 13) / 256 = bt s 13 by omega]
      rw [this, str_nums]
end Go.Proofs.Ytonheibhbilhhaa.desc

/- plugref's devices: what DeviceText answers. -/
namespace Go.Proofs.Ytonheibhbilhhaa.desc
open Go.RowKit Go.PlainAid Go.Proofs.Ytonheibhbilhhaa.lane
set_option linter.unusedVariables false
set_option linter.unusedSimpArgs false

theorem two_conv (x y : Int) (w : World) : (convert 71 9 (.slice (some ⟨w.heap.size, 0, none⟩) 2 2)).run Try.prog (w.alloc (.cells #[.int .u8 x, .int .u8 y] 5)) = .ok (.string (strOfNums [x, y])) (w.alloc (.cells #[.int .u8 x, .int .u8 y] 5)) := by
  refine run_convert_bytes_arg _ 71 5 Try.underlying71 Try.underlying5 w.heap.size 0 2 2 [x, y] rfl ?_ 9 Try.underlying9
  intro i hi
  match i, hi with
  | 0, _ => simp
  | 1, _ => simp
theorem twoBytes_any (n : Int) (h0 : 0 ≤ n) (h1 : n ≤ 65535) (w : World) :
    Calls Try.prog 51 #[.int .i64 n] w fun e w' => e = .returned (.string (strOfNums (wrd n))) ∧ Below w.heap.size w w' := by
  have hc := two_conv (n % 256) (n / 256) w
  have he : n / 256 % 256 = n / 256 := by omega
  unfold wrd
  go_enter Try.func51, Try.ntmps51
  go_wp2
  go_ret
  exact ⟨rfl, (Below.refl _ _).alloc (Nat.le_refl _) _⟩
theorem has_m0 (x : Int) : [8, 16, 32, 64].contains x = m0B x := by
  simp only [m0B, List.contains_cons, List.contains_nil, Bool.or_false]
theorem devOk_R (d : Dv) : devOk d = (allB 65535 [d.us, d.ve, d.pd, d.re] && (allB 255 [d.cl, d.su, d.pr, d.m0] && (allB 255 [d.ma, d.nm, d.se, d.cf] && (!decide (d.cf < 1) && m0B d.m0)))) := by
  rw [Bool.eq_iff_iff, devOk_iff]
  simp [allB, inB, m0B]
  omega
theorem dev_text (us cl su pr m0 ve pd re ma nm se cf : Int) : (⟨#[18, 1]⟩ : ByteArray) ++ strOfNums (wrd us) ++ strOfNums [cl, su, pr, m0] ++ strOfNums (wrd ve) ++ strOfNums (wrd pd) ++ strOfNums (wrd re) ++ strOfNums [ma, nm, se, cf] = strOfNums (devL ⟨us, cl, su, pr, m0, ve, pd, re, ma, nm, se, cf⟩) := by
  have e : (⟨#[18, 1]⟩ : ByteArray) = strOfNums [18, 1] := rfl
  rw [e, ← str_append, ← str_append, ← str_append, ← str_append, ← str_append, ← str_append]
  rfl
end Go.Proofs.Ytonheibhbilhhaa.desc

/- plugref's devices: what ReadDevice answers. -/
namespace Go.Proofs.Ytonheibhbilhhaa.desc
open Go.RowKit Go.PlainAid Go.Proofs.Ytonheibhbilhhaa.lane
set_option linter.unusedVariables false
set_option linter.unusedSimpArgs false

/-- a whole device is put in the place R -/
theorem ch12 (W : World) (R : Nat) (e d : Dv) (h : W.heap[R]? = some (dvO e)) :
    ∃ wf, ((((((((((((W).setCell ⟨R, 0, none⟩ (.int .i64 d.us)).setCell ⟨R, 1, none⟩ (.int .i64 d.cl)).setCell ⟨R, 2, none⟩ (.int .i64 d.su)).setCell ⟨R, 3, none⟩ (.int .i64 d.pr)).setCell ⟨R, 4, none⟩ (.int .i64 d.m0)).setCell ⟨R, 5, none⟩ (.int .i64 d.ve)).setCell ⟨R, 6, none⟩ (.int .i64 d.pd)).setCell ⟨R, 7, none⟩ (.int .i64 d.re)).setCell ⟨R, 8, none⟩ (.int .i64 d.ma)).setCell ⟨R, 9, none⟩ (.int .i64 d.nm)).setCell ⟨R, 10, none⟩ (.int .i64 d.se)).setCell ⟨R, 11, none⟩ (.int .i64 d.cf) = wf ∧ wf.heap[R]? = some (dvO d) ∧
      (∀ w0 : World, w0.heap.size ≤ R → Below w0.heap.size w0 W → Below w0.heap.size w0 wf) ∧ (∀ (Y : Nat) (o : Obj), Y ≠ R → W.heap[Y]? = some o → wf.heap[Y]? = some o) :=
  ⟨_, rfl, chain12 h, fun w0 hR hb => (((((((((((hb.setCell hR _).setCell hR _).setCell hR _).setCell hR _).setCell hR _).setCell hR _).setCell hR _).setCell hR _).setCell hR _).setCell hR _).setCell hR _).setCell hR _,
    fun Y o hne h => res_set (res_set (res_set (res_set (res_set (res_set (res_set (res_set (res_set (res_set (res_set (res_set h hne) hne) hne) hne) hne) hne) hne) hne) hne) hne) hne) hne⟩
set_option maxHeartbeats 1000000 in
set_option maxRecDepth 100000 in
theorem indexByteLite (s : ByteArray) (c : Int) (w : World) :
    Calls Try.prog 93 #[.string s, .int .u8 c] w fun e w' => e = .returned (.int .i64 (Lib.indexByte s.data.toList c.toNat.toUInt8)) ∧ w = w' := by
  go_enter Try.func93, Try.ntmps93
  go_wp2
  rw [run_callFunc_extern Try.func111 (by kernel_rfl) (by kernel_rfl) (by kernel_rfl) (e := Extern.BytealgIndexByte.indexByte) (by kernel_rfl), Lib.run_indexByteString]
  simp only [Result.andThen]
  rw [Oper.upon_value]
  go_wp2
  go_ret
  exact ⟨rfl, rfl⟩
theorem indexByte_any (s : ByteArray) (c : Int) (w : World) :
    Calls Try.prog 77 #[.string s, .int .u8 c] w fun e w' => e = .returned (.int .i64 (Lib.indexByte s.data.toList c.toNat.toUInt8)) ∧ w = w' := by
  go_enter Try.func77, Try.ntmps77
  go_wp2_with (go_at_call 93; refine (indexByteLite _ _ _).mono ?_; rintro e w' ⟨rfl, rfl⟩)
  go_ret
  exact ⟨rfl, rfl⟩
theorem idx_m0_all : ∀ n : Fin 256, decide (((n.val : Int) = 8 ∨ (n.val : Int) = 16 ∨ (n.val : Int) = 32 ∨ (n.val : Int) = 64)) = !decide (Lib.indexByte [8, 16, 32, 64] (n.val : Int).toNat.toUInt8 < 0) := by decide +kernel
theorem idx_m0 (x : Int) (h0 : 0 ≤ x) (h1 : x ≤ 255) : decide (x = 8 ∨ x = 16 ∨ x = 32 ∨ x = 64) = !decide (Lib.indexByte [8, 16, 32, 64] x.toNat.toUInt8 < 0) := by
  have h := idx_m0_all ⟨x.toNat, by omega⟩
  have e : ((x.toNat : Nat) : Int) = x := by omega
  simp only [e] at h
  exact h
theorem first_two (s : ByteArray) (h : 18 ≤ s.size) : s.extract 0 2 = ⟨#[18, 1]⟩ ↔ bt s 0 = 18 ∧ bt s 1 = 1 := by
  have e : (⟨#[18, 1]⟩ : ByteArray) = strOfNums [18, 1] := rfl
  have hn : nums (s.extract 0 2) = [bt s 0, bt s 1] := by
    rw [nums_extract, List.drop_zero, bt_nums s 0 (by omega), bt_nums s 1 (by omega)]
    have hl := nums_length s
    match hm : nums s with
    | [] => rw [hm] at hl; simp at hl; omega
    | [a] => rw [hm] at hl; simp at hl; omega
    | a :: b :: r => rfl
  constructor
  · intro h1
    have h2 : nums (s.extract 0 2) = nums (strOfNums [18, 1]) := by rw [h1, e]
    rw [hn, nums_str _ (by intro x hx; simp at hx; omega)] at h2
    injection h2 with h3 h4
    injection h4 with h4 _
    exact ⟨h3, h4⟩
  · rintro ⟨h1, h2⟩
    rw [h1, h2] at hn
    rw [e, ← hn, str_nums]
set_option maxHeartbeats 400000 in
theorem wordAt_any (s : ByteArray) (k : Nat) (w : World) (hk : k + 1 < s.size) (hs : s.size ≤ maxLen) :
    Calls Try.prog 60 #[.string s, .int .i64 (k : Int)] w fun e w' => e = .returned (.int .i64 (wdOf (s.extract k s.size))) ∧ ∃ q, w' = w.drewN q := by
  unfold maxLen at hs
  have x0 : ∀ W : World, (Instr.index 9 (.string s) (.int .i64 (k : Int))).run Try.prog W = .ok (.int .u8 (bt s k)) W := run_ix s k (by omega)
  have x1 : ∀ W : World, (Instr.index 9 (.string s) (.int .i64 ((k : Int) + 1))).run Try.prog W = .ok (.int .u8 (bt s (k + 1))) W := run_ix s (k + 1) (by omega)
  have b0 := bt_nonneg s k
  have b1 := bt_le s k
  have c0 := bt_nonneg s (k + 1)
  have c1 := bt_le s (k + 1)
  have HN : Hid (256 * bt s (k + 1) + bt s k = wdOf (s.extract k s.size)) := by show _ = _; rw [wd_at s k hk]; omega
  generalize wdOf (s.extract k s.size) = N at *
  generalize bt s (k + 1) = y at *
  generalize bt s k = x at *
  go_enter Try.func60, Try.ntmps60
  go_wp2_with fail
  go_quiet (fail)
  go_wp2
  go_ret
  rw [HN.out]
  exact ⟨rfl, _, rfl⟩
/-- a device of which the last four are set, as they come up -/
def C8 (w : World) (X R : Nat) (D : Int → Int → Int → Int → Dv) (x y z t : Int) (L : Array Bool) (W : World) : Prop :=
  W.heap[X]? = some (dvO (D (if L.getD 13 false = true then x else 0) (if L.getD 15 false = true then y else 0) (if L.getD 17 false = true then z else 0) (if L.getD 19 false = true then t else 0))) ∧ W.heap[R]? = some (dvO noD) ∧ Below w.heap.size w W
theorem C8_keep {w : World} {X R : Nat} {D : Int → Int → Int → Int → Dv} {x y z t : Int} {L : Array Bool} {W : World} (k : Nat) (h13 : k ≠ 13) (h15 : k ≠ 15) (h17 : k ≠ 17) (h19 : k ≠ 19) (h : C8 w X R D x y z t L W) : C8 w X R D x y z t (L.setIfInBounds k true) W := by
  unfold C8 at *
  rw [getD_set_ne false h13, getD_set_ne false h15, getD_set_ne false h17, getD_set_ne false h19]
  exact h
def D8 (us cl su pr m0 ve pd re : Int) (ma nm se cf : Int) : Dv := ⟨us, cl, su, pr, m0, ve, pd, re, ma, nm, se, cf⟩
theorem C8_set0 {w : World} {X R : Nat} {us cl su pr m0 ve pd re : Int} {x y z t : Int} {L : Array Bool} {W : World} (hz : 13 < L.size) (h : C8 w X R (D8 us cl su pr m0 ve pd re) x y z t L W) (hXR : R ≠ X) (hXL : w.heap.size ≤ X) :
    W.cell? ⟨X, 8, none⟩ = some (.int .i64 (if L.getD 13 false = true then x else 0)) ∧ W.frozen? ⟨X, 8, none⟩ = false ∧ C8 w X R (D8 us cl su pr m0 ve pd re) x y z t (L.setIfInBounds 13 true) (W.setCell ⟨X, 8, none⟩ (.int .i64 x)) := by
  obtain ⟨h1, h2, h3⟩ := h
  obtain ⟨hd, hf⟩ := box12 h1
  refine ⟨hd.c8, hf 8, ?_, res_set h2 hXR, h3.setCell hXL _⟩
  rw [set_same hz, if_pos rfl, getD_set_ne (i := 13) (j := 15) false (by decide), getD_set_ne (i := 13) (j := 17) false (by decide), getD_set_ne (i := 13) (j := 19) false (by decide)]
  exact cset1 8 (.int .i64 x) h1 rfl
theorem C8_set1 {w : World} {X R : Nat} {us cl su pr m0 ve pd re : Int} {x y z t : Int} {L : Array Bool} {W : World} (hz : 15 < L.size) (h : C8 w X R (D8 us cl su pr m0 ve pd re) x y z t L W) (hXR : R ≠ X) (hXL : w.heap.size ≤ X) :
    W.cell? ⟨X, 9, none⟩ = some (.int .i64 (if L.getD 15 false = true then y else 0)) ∧ W.frozen? ⟨X, 9, none⟩ = false ∧ C8 w X R (D8 us cl su pr m0 ve pd re) x y z t (L.setIfInBounds 15 true) (W.setCell ⟨X, 9, none⟩ (.int .i64 y)) := by
  obtain ⟨h1, h2, h3⟩ := h
  obtain ⟨hd, hf⟩ := box12 h1
  refine ⟨hd.c9, hf 9, ?_, res_set h2 hXR, h3.setCell hXL _⟩
  rw [set_same hz, if_pos rfl, getD_set_ne (i := 15) (j := 13) false (by decide), getD_set_ne (i := 15) (j := 17) false (by decide), getD_set_ne (i := 15) (j := 19) false (by decide)]
  exact cset1 9 (.int .i64 y) h1 rfl
theorem C8_set2 {w : World} {X R : Nat} {us cl su pr m0 ve pd re : Int} {x y z t : Int} {L : Array Bool} {W : World} (hz : 17 < L.size) (h : C8 w X R (D8 us cl su pr m0 ve pd re) x y z t L W) (hXR : R ≠ X) (hXL : w.heap.size ≤ X) :
    W.cell? ⟨X, 10, none⟩ = some (.int .i64 (if L.getD 17 false = true then z else 0)) ∧ W.frozen? ⟨X, 10, none⟩ = false ∧ C8 w X R (D8 us cl su pr m0 ve pd re) x y z t (L.setIfInBounds 17 true) (W.setCell ⟨X, 10, none⟩ (.int .i64 z)) := by
  obtain ⟨h1, h2, h3⟩ := h
  obtain ⟨hd, hf⟩ := box12 h1
  refine ⟨hd.c10, hf 10, ?_, res_set h2 hXR, h3.setCell hXL _⟩
  rw [set_same hz, if_pos rfl, getD_set_ne (i := 17) (j := 13) false (by decide), getD_set_ne (i := 17) (j := 15) false (by decide), getD_set_ne (i := 17) (j := 19) false (by decide)]
  exact cset1 10 (.int .i64 z) h1 rfl
theorem C8_set3 {w : World} {X R : Nat} {us cl su pr m0 ve pd re : Int} {x y z t : Int} {L : Array Bool} {W : World} (hz : 19 < L.size) (h : C8 w X R (D8 us cl su pr m0 ve pd re) x y z t L W) (hXR : R ≠ X) (hXL : w.heap.size ≤ X) :
    W.cell? ⟨X, 11, none⟩ = some (.int .i64 (if L.getD 19 false = true then t else 0)) ∧ W.frozen? ⟨X, 11, none⟩ = false ∧ C8 w X R (D8 us cl su pr m0 ve pd re) x y z t (L.setIfInBounds 19 true) (W.setCell ⟨X, 11, none⟩ (.int .i64 t)) := by
  obtain ⟨h1, h2, h3⟩ := h
  obtain ⟨hd, hf⟩ := box12 h1
  refine ⟨hd.c11, hf 11, ?_, res_set h2 hXR, h3.setCell hXL _⟩
  rw [set_same hz, if_pos rfl, getD_set_ne (i := 19) (j := 13) false (by decide), getD_set_ne (i := 19) (j := 15) false (by decide), getD_set_ne (i := 19) (j := 17) false (by decide)]
  exact cset1 11 (.int .i64 t) h1 rfl
set_option maxRecDepth 100000 in
set_option maxHeartbeats 4000000 in
theorem rread_short (s : ByteArray) (w : World) (hs : s.size ≤ maxLen) (h18 : s.size < 18) :
    Calls Try.prog 59 #[.string s] w fun e w' => e = .returned (.tuple #[dvV (rdD s), .int .i64 (rdE s)]) ∧ Below w.heap.size w w' := by
  have hsm := hs
  unfold maxLen at hs
  obtain ⟨v, hv⟩ : ∃ v, w.alloc (dvO noD) = v := ⟨_, rfl⟩
  have hbv : Below w.heap.size w v := by rw [← hv]; exact balloc _ _
  have hRv : v.heap[w.heap.size]? = some (dvO noD) := by rw [← hv]; exact (MapKept.heap_alloc w _).1
  obtain ⟨v2, hv2⟩ : ∃ v2, v.alloc (dvO noD) = v2 := ⟨_, rfl⟩
  have hb2 : Below v.heap.size v v2 := by rw [← hv2]; exact balloc _ _
  have hN2 : v2.heap[v.heap.size]? = some (dvO noD) := by rw [← hv2]; exact (MapKept.heap_alloc v _).1
  have hR2 := res_below hRv hb2
  have hlt : w.heap.size < v.heap.size := (Array.getElem?_eq_some_iff.1 hRv).1
  obtain ⟨v3, hv3, hN3, hB3, hO3⟩ := ch12 v2 v.heap.size noD noD hN2
  have hR3 := hO3 _ _ (Nat.ne_of_lt hlt) hR2
  have HB3 : Hid (Below w.heap.size w v3) := hB3 w (Nat.le_of_lt hlt) (bsq hbv hb2)
  obtain ⟨⟨hz2, y0, y1, y2, y3, y4, y5, y6, y7, y8, y9, y10, y11⟩, hfy⟩ := box12 (d := noD) hN2
  have g0 := hfy 0
  have g1 := hfy 1
  have g2 := hfy 2
  have g3 := hfy 3
  have g4 := hfy 4
  have g5 := hfy 5
  have g6 := hfy 6
  have g7 := hfy 7
  have g8 := hfy 8
  have g9 := hfy 9
  have g10 := hfy 10
  have g11 := hfy 11
  obtain ⟨⟨hz3, n0, n1, n2, n3, n4, n5, n6, n7, n8, n9, n10, n11⟩, _⟩ := box12 (d := noD) hN3
  obtain ⟨⟨hzR, z0, z1, z2, z3, z4, z5, z6, z7, z8, z9, z10, z11⟩, hfr⟩ := box12 (d := noD) hR3
  have f0 := hfr 0
  have f1 := hfr 1
  have f2 := hfr 2
  have f3 := hfr 3
  have f4 := hfr 4
  have f5 := hfr 5
  have f6 := hfr 6
  have f7 := hfr 7
  have f8 := hfr 8
  have f9 := hfr 9
  have f10 := hfr 10
  have f11 := hfr 11
  obtain ⟨vf, hvf, hRf, hBf, _⟩ := ch12 v3 w.heap.size noD noD hR3
  have HBf : Hid (Below w.heap.size w vf) := hBf w (Nat.le_refl _) HB3.out
  obtain ⟨⟨hzf, r0, r1, r2, r3, r4, r5, r6, r7, r8, r9, r10, r11⟩, _⟩ := box12 (d := noD) hRf
  have HR3 : Hid (v3.heap[w.heap.size]? = some (dvO noD)) := hR3
  simp only [noD] at y0 y1 y2 y3 y4 y5 y6 y7 y8 y9 y10 y11 n0 n1 n2 n3 n4 n5 n6 n7 n8 n9 n10 n11 z0 z1 z2 z3 z4 z5 z6 z7 z8 z9 z10 z11 r0 r1 r2 r3 r4 r5 r6 r7 r8 r9 r10 r11 hv3 hvf hv hv2
  clear hbv hRv hb2 hN2 hR2 hN3 hB3 hO3 hR3 hfy hfr hRf hBf
  rw [show rdD s = noD by unfold rdD; rw [if_pos h18], show rdE s = 3 by unfold rdE; rw [if_pos h18]]
  go_enter Try.func59, Try.ntmps59
  go_wp2
  try rw [hvf]
  exact bodyPost_ret (v := .tuple #[dvV noD, .int .i64 3]) (by simp [results, Try.results59, go_sem, hzf, r0, r1, r2, r3, r4, r5, r6, r7, r8, r9, r10, r11, noD]) rfl ⟨rfl, HBf.out⟩
end Go.Proofs.Ytonheibhbilhhaa.desc

/- plugref's devices: what ReadDevice answers of other texts. -/
namespace Go.Proofs.Ytonheibhbilhhaa.desc
open Go.RowKit Go.PlainAid Go.Proofs.Ytonheibhbilhhaa.lane
set_option linter.unusedVariables false
set_option linter.unusedSimpArgs false

set_option maxRecDepth 100000 in
set_option maxHeartbeats 4000000 in
theorem rread_no (s : ByteArray) (w : World) (hs : s.size ≤ maxLen) (h18 : ¬ s.size < 18) (hno : ¬ isDev s = true) :
    Calls Try.prog 59 #[.string s] w fun e w' => e = .returned (.tuple #[dvV (rdD s), .int .i64 (rdE s)]) ∧ Below w.heap.size w w' := by
  have hsm := hs
  unfold maxLen at hs
  obtain ⟨v, hv⟩ : ∃ v, w.alloc (dvO noD) = v := ⟨_, rfl⟩
  have hbv : Below w.heap.size w v := by rw [← hv]; exact balloc _ _
  have hRv : v.heap[w.heap.size]? = some (dvO noD) := by rw [← hv]; exact (MapKept.heap_alloc w _).1
  obtain ⟨v2, hv2⟩ : ∃ v2, v.alloc (dvO noD) = v2 := ⟨_, rfl⟩
  have hb2 : Below v.heap.size v v2 := by rw [← hv2]; exact balloc _ _
  have hN2 : v2.heap[v.heap.size]? = some (dvO noD) := by rw [← hv2]; exact (MapKept.heap_alloc v _).1
  have hR2 := res_below hRv hb2
  have hlt : w.heap.size < v.heap.size := (Array.getElem?_eq_some_iff.1 hRv).1
  obtain ⟨v3, hv3, hN3, hB3, hO3⟩ := ch12 v2 v.heap.size noD noD hN2
  have hR3 := hO3 _ _ (Nat.ne_of_lt hlt) hR2
  have HB3 : Hid (Below w.heap.size w v3) := hB3 w (Nat.le_of_lt hlt) (bsq hbv hb2)
  obtain ⟨⟨hz2, y0, y1, y2, y3, y4, y5, y6, y7, y8, y9, y10, y11⟩, hfy⟩ := box12 (d := noD) hN2
  have g0 := hfy 0
  have g1 := hfy 1
  have g2 := hfy 2
  have g3 := hfy 3
  have g4 := hfy 4
  have g5 := hfy 5
  have g6 := hfy 6
  have g7 := hfy 7
  have g8 := hfy 8
  have g9 := hfy 9
  have g10 := hfy 10
  have g11 := hfy 11
  obtain ⟨⟨hz3, n0, n1, n2, n3, n4, n5, n6, n7, n8, n9, n10, n11⟩, _⟩ := box12 (d := noD) hN3
  obtain ⟨⟨hzR, z0, z1, z2, z3, z4, z5, z6, z7, z8, z9, z10, z11⟩, hfr⟩ := box12 (d := noD) hR3
  have f0 := hfr 0
  have f1 := hfr 1
  have f2 := hfr 2
  have f3 := hfr 3
  have f4 := hfr 4
  have f5 := hfr 5
  have f6 := hfr 6
  have f7 := hfr 7
  have f8 := hfr 8
  have f9 := hfr 9
  have f10 := hfr 10
  have f11 := hfr 11
  obtain ⟨vf, hvf, hRf, hBf, _⟩ := ch12 v3 w.heap.size noD noD hR3
  have HBf : Hid (Below w.heap.size w vf) := hBf w (Nat.le_refl _) HB3.out
  obtain ⟨⟨hzf, r0, r1, r2, r3, r4, r5, r6, r7, r8, r9, r10, r11⟩, _⟩ := box12 (d := noD) hRf
  have HR3 : Hid (v3.heap[w.heap.size]? = some (dvO noD)) := hR3
  simp only [noD] at y0 y1 y2 y3 y4 y5 y6 y7 y8 y9 y10 y11 n0 n1 n2 n3 n4 n5 n6 n7 n8 n9 n10 n11 z0 z1 z2 z3 z4 z5 z6 z7 z8 z9 z10 z11 r0 r1 r2 r3 r4 r5 r6 r7 r8 r9 r10 r11 hv3 hvf hv hv2
  clear hbv hRv hb2 hN2 hR2 hN3 hB3 hO3 hR3 hfy hfr hRf hBf
  have h18' : 18 ≤ s.size := by omega
  have hft := first_two s h18'
  have hsl : ∀ W : World, (Instr.slice 9 (.string s) none (some (.int .i64 2)) none).run Try.prog W = .ok (.string (s.extract 0 2)) W := fun W =>
    run_slice_string_h (P := Try.prog) (w := W) 9 s Try.underlying9 .i64 2 (by omega) (by omega)
  have x4 : ∀ W : World, (Instr.index 9 (.string s) (.int .i64 4)).run Try.prog W = .ok (.int .u8 (bt s 4)) W := run_ix s 4 (by omega)
  have x5 : ∀ W : World, (Instr.index 9 (.string s) (.int .i64 5)).run Try.prog W = .ok (.int .u8 (bt s 5)) W := run_ix s 5 (by omega)
  have x6 : ∀ W : World, (Instr.index 9 (.string s) (.int .i64 6)).run Try.prog W = .ok (.int .u8 (bt s 6)) W := run_ix s 6 (by omega)
  have x7 : ∀ W : World, (Instr.index 9 (.string s) (.int .i64 7)).run Try.prog W = .ok (.int .u8 (bt s 7)) W := run_ix s 7 (by omega)
  have x14 : ∀ W : World, (Instr.index 9 (.string s) (.int .i64 14)).run Try.prog W = .ok (.int .u8 (bt s 14)) W := run_ix s 14 (by omega)
  have x15 : ∀ W : World, (Instr.index 9 (.string s) (.int .i64 15)).run Try.prog W = .ok (.int .u8 (bt s 15)) W := run_ix s 15 (by omega)
  have x16 : ∀ W : World, (Instr.index 9 (.string s) (.int .i64 16)).run Try.prog W = .ok (.int .u8 (bt s 16)) W := run_ix s 16 (by omega)
  have x17 : ∀ W : World, (Instr.index 9 (.string s) (.int .i64 17)).run Try.prog W = .ok (.int .u8 (bt s 17)) W := run_ix s 17 (by omega)
  have hM : ∀ k, IntKind.i64.wrap (bt s k) = bt s k := fun k => by have := bt_nonneg s k; have := bt_le s k; rw [IntKind.wrap_i64]; omega
  have HIX : Hid (∀ w : World, Calls Try.prog 77 #[.string ⟨#[8, 16, 32, 64]⟩, .int .u8 (bt s 7)] w fun e w' => e = .returned (.int .i64 (Lib.indexByte [8, 16, 32, 64] (bt s 7).toNat.toUInt8)) ∧ w = w') := fun w => indexByte_any _ _ w
  have HID : Hid _ := idx_m0 (bt s 7) (bt_nonneg s 7) (bt_le s 7)
  have HIR : Hid (isDev s = true ↔ isDevR s) := isDev_R s h18'
  have HRD : Hid (rdD s = if isDev s = true then devO s else noD) := by show _ = _; unfold rdD; rw [if_neg h18]
  have HRE : Hid (rdE s = if isDev s = true then 0 else 4) := by show _ = _; unfold rdE; rw [if_neg h18]
  have e2 : ((s.extract 0 2).toList == [18, 1]) = decide (s.extract 0 2 = ⟨#[18, 1]⟩) := by
    have := toList_beq (s.extract 0 2) ⟨#[18, 1]⟩
    rwa [show (⟨#[18, 1]⟩ : ByteArray).toList = [18, 1] by decide +kernel] at this
  obtain ⟨RD, hRD⟩ : ∃ d, rdD s = d := ⟨_, rfl⟩
  obtain ⟨RE, hRE⟩ : ∃ d, rdE s = d := ⟨_, rfl⟩
  rw [hRD] at HRD
  rw [hRE] at HRE
  rw [hRD, hRE]
  have HHM : Hid _ := hM
  clear hRD hRE hM
  generalize Lib.indexByte [8, 16, 32, 64] (bt s 7).toNat.toUInt8 = ix at *
  by_cases hgt : 18 < s.size
  · have HNO : Hid (RD = noD ∧ RE = 4) := by
      have : ¬ isDev s = true := fun h => by
        obtain ⟨q1, q2, q3, q4, q5⟩ := HIR.out.1 h
        omega
      exact ⟨by rw [HRD.out, if_neg this], by rw [HRE.out, if_neg this]⟩
    clear hft HHM x4 x5 x6 x14 x15 x16
    clear HIR HRD HRE HID
    rw [HNO.out.1, HNO.out.2]
    go_enter Try.func59, Try.ntmps59
    go_wp2
    try rw [hvf]
    exact bodyPost_ret (v := .tuple #[dvV noD, .int .i64 4]) (by simp [results, Try.results59, go_sem, hzf, r0, r1, r2, r3, r4, r5, r6, r7, r8, r9, r10, r11, noD]) rfl ⟨rfl, HBf.out⟩
  by_cases hex : s.extract 0 2 = ⟨#[18, 1]⟩
  case neg =>
    have HNO : Hid (RD = noD ∧ RE = 4) := by
      have : ¬ isDev s = true := fun h => by
        obtain ⟨q1, q2, q3, q4, q5⟩ := HIR.out.1 h
        exact hex (hft.2 ⟨q2, q3⟩)
      exact ⟨by rw [HRD.out, if_neg this], by rw [HRE.out, if_neg this]⟩
    rw [decide_eq_false hex] at e2
    clear hft HHM x4 x5 x6 x14 x15 x16
    clear HIR HRD HRE HID
    rw [HNO.out.1, HNO.out.2]
    go_enter Try.func59, Try.ntmps59
    go_wp2
    try rw [hvf]
    exact bodyPost_ret (v := .tuple #[dvV noD, .int .i64 4]) (by simp [results, Try.results59, go_sem, hzf, r0, r1, r2, r3, r4, r5, r6, r7, r8, r9, r10, r11, noD]) rfl ⟨rfl, HBf.out⟩
  by_cases h17 : bt s 17 = 0
  · have HNO : Hid (RD = noD ∧ RE = 4) := by
      have : ¬ isDev s = true := fun h => by
        obtain ⟨q1, q2, q3, q4, q5⟩ := HIR.out.1 h
        exact q4 h17
      exact ⟨by rw [HRD.out, if_neg this], by rw [HRE.out, if_neg this]⟩
    rw [decide_eq_true hex] at e2
    have e17 : (bt s 17 == 0) = true := by simpa using h17
    clear h17
    clear hft HHM x4 x5 x6 x14 x15 x16
    clear HIR HRD HRE HID
    rw [HNO.out.1, HNO.out.2]
    go_enter Try.func59, Try.ntmps59
    go_wp2
    try rw [hvf]
    exact bodyPost_ret (v := .tuple #[dvV noD, .int .i64 4]) (by simp [results, Try.results59, go_sem, hzf, r0, r1, r2, r3, r4, r5, r6, r7, r8, r9, r10, r11, noD]) rfl ⟨rfl, HBf.out⟩
  by_cases hix : ix < 0
  · have HNO : Hid (RD = noD ∧ RE = 4) := by
      have : ¬ isDev s = true := fun h => by
        obtain ⟨q1, q2, q3, q4, q5⟩ := HIR.out.1 h
        have := HID.out; rw [decide_eq_true hix] at this; simp at this; omega
      exact ⟨by rw [HRD.out, if_neg this], by rw [HRE.out, if_neg this]⟩
    rw [decide_eq_true hex] at e2
    have e17 : (bt s 17 == 0) = false := by simpa using h17
    clear h17
    clear hft HHM x4 x5 x6 x14 x15 x16
    clear HIR HRD HRE HID
    rw [HNO.out.1, HNO.out.2]
    go_enter Try.func59, Try.ntmps59
    go_wp2_with fail
    refine (HIX.out _).mono ?_
    rintro e wq ⟨rfl, rfl⟩
    go_wp2
    try rw [hvf]
    exact bodyPost_ret (v := .tuple #[dvV noD, .int .i64 4]) (by simp [results, Try.results59, go_sem, hzf, r0, r1, r2, r3, r4, r5, r6, r7, r8, r9, r10, r11, noD]) rfl ⟨rfl, HBf.out⟩
  exact absurd (HIR.out.2 ⟨by omega, (hft.1 hex).1, (hft.1 hex).2, h17, by have := HID.out; rw [decide_eq_false hix] at this; simpa using this⟩) hno
end Go.Proofs.Ytonheibhbilhhaa.desc

/- plugref's devices: what ReadDevice answers of a device's text. -/
namespace Go.Proofs.Ytonheibhbilhhaa.desc
open Go.RowKit Go.PlainAid Go.Proofs.Ytonheibhbilhhaa.lane
set_option linter.unusedVariables false
set_option linter.unusedSimpArgs false

set_option maxRecDepth 100000 in
set_option maxHeartbeats 16000000 in
theorem rread_yes (s : ByteArray) (w : World) (hs : s.size ≤ maxLen) (h18 : ¬ s.size < 18) (hyes : isDev s = true) :
    Calls Try.prog 59 #[.string s] w fun e w' => e = .returned (.tuple #[dvV (rdD s), .int .i64 (rdE s)]) ∧ Below w.heap.size w w' := by
  have hsm := hs
  unfold maxLen at hs
  obtain ⟨v, hv⟩ : ∃ v, w.alloc (dvO noD) = v := ⟨_, rfl⟩
  have hbv : Below w.heap.size w v := by rw [← hv]; exact balloc _ _
  have hRv : v.heap[w.heap.size]? = some (dvO noD) := by rw [← hv]; exact (MapKept.heap_alloc w _).1
  obtain ⟨v2, hv2⟩ : ∃ v2, v.alloc (dvO noD) = v2 := ⟨_, rfl⟩
  have hb2 : Below v.heap.size v v2 := by rw [← hv2]; exact balloc _ _
  have hN2 : v2.heap[v.heap.size]? = some (dvO noD) := by rw [← hv2]; exact (MapKept.heap_alloc v _).1
  have hR2 := res_below hRv hb2
  have hlt : w.heap.size < v.heap.size := (Array.getElem?_eq_some_iff.1 hRv).1
  obtain ⟨v3, hv3, hN3, hB3, hO3⟩ := ch12 v2 v.heap.size noD noD hN2
  have hR3 := hO3 _ _ (Nat.ne_of_lt hlt) hR2
  have HB3 : Hid (Below w.heap.size w v3) := hB3 w (Nat.le_of_lt hlt) (bsq hbv hb2)
  obtain ⟨⟨hz2, y0, y1, y2, y3, y4, y5, y6, y7, y8, y9, y10, y11⟩, hfy⟩ := box12 (d := noD) hN2
  have g0 := hfy 0
  have g1 := hfy 1
  have g2 := hfy 2
  have g3 := hfy 3
  have g4 := hfy 4
  have g5 := hfy 5
  have g6 := hfy 6
  have g7 := hfy 7
  have g8 := hfy 8
  have g9 := hfy 9
  have g10 := hfy 10
  have g11 := hfy 11
  obtain ⟨⟨hz3, n0, n1, n2, n3, n4, n5, n6, n7, n8, n9, n10, n11⟩, _⟩ := box12 (d := noD) hN3
  obtain ⟨⟨hzR, z0, z1, z2, z3, z4, z5, z6, z7, z8, z9, z10, z11⟩, hfr⟩ := box12 (d := noD) hR3
  have f0 := hfr 0
  have f1 := hfr 1
  have f2 := hfr 2
  have f3 := hfr 3
  have f4 := hfr 4
  have f5 := hfr 5
  have f6 := hfr 6
  have f7 := hfr 7
  have f8 := hfr 8
  have f9 := hfr 9
  have f10 := hfr 10
  have f11 := hfr 11
  obtain ⟨vf, hvf, hRf, hBf, _⟩ := ch12 v3 w.heap.size noD noD hR3
  have HBf : Hid (Below w.heap.size w vf) := hBf w (Nat.le_refl _) HB3.out
  obtain ⟨⟨hzf, r0, r1, r2, r3, r4, r5, r6, r7, r8, r9, r10, r11⟩, _⟩ := box12 (d := noD) hRf
  have HR3 : Hid (v3.heap[w.heap.size]? = some (dvO noD)) := hR3
  simp only [noD] at y0 y1 y2 y3 y4 y5 y6 y7 y8 y9 y10 y11 n0 n1 n2 n3 n4 n5 n6 n7 n8 n9 n10 n11 z0 z1 z2 z3 z4 z5 z6 z7 z8 z9 z10 z11 r0 r1 r2 r3 r4 r5 r6 r7 r8 r9 r10 r11 hv3 hvf hv hv2
  clear hbv hRv hb2 hN2 hR2 hN3 hB3 hO3 hR3 hfy hfr hRf hBf
  have h18' : 18 ≤ s.size := by omega
  have hft := first_two s h18'
  have hsl : ∀ W : World, (Instr.slice 9 (.string s) none (some (.int .i64 2)) none).run Try.prog W = .ok (.string (s.extract 0 2)) W := fun W =>
    run_slice_string_h (P := Try.prog) (w := W) 9 s Try.underlying9 .i64 2 (by omega) (by omega)
  have x4 : ∀ W : World, (Instr.index 9 (.string s) (.int .i64 4)).run Try.prog W = .ok (.int .u8 (bt s 4)) W := run_ix s 4 (by omega)
  have x5 : ∀ W : World, (Instr.index 9 (.string s) (.int .i64 5)).run Try.prog W = .ok (.int .u8 (bt s 5)) W := run_ix s 5 (by omega)
  have x6 : ∀ W : World, (Instr.index 9 (.string s) (.int .i64 6)).run Try.prog W = .ok (.int .u8 (bt s 6)) W := run_ix s 6 (by omega)
  have x7 : ∀ W : World, (Instr.index 9 (.string s) (.int .i64 7)).run Try.prog W = .ok (.int .u8 (bt s 7)) W := run_ix s 7 (by omega)
  have x14 : ∀ W : World, (Instr.index 9 (.string s) (.int .i64 14)).run Try.prog W = .ok (.int .u8 (bt s 14)) W := run_ix s 14 (by omega)
  have x15 : ∀ W : World, (Instr.index 9 (.string s) (.int .i64 15)).run Try.prog W = .ok (.int .u8 (bt s 15)) W := run_ix s 15 (by omega)
  have x16 : ∀ W : World, (Instr.index 9 (.string s) (.int .i64 16)).run Try.prog W = .ok (.int .u8 (bt s 16)) W := run_ix s 16 (by omega)
  have x17 : ∀ W : World, (Instr.index 9 (.string s) (.int .i64 17)).run Try.prog W = .ok (.int .u8 (bt s 17)) W := run_ix s 17 (by omega)
  have hM : ∀ k, IntKind.i64.wrap (bt s k) = bt s k := fun k => by have := bt_nonneg s k; have := bt_le s k; rw [IntKind.wrap_i64]; omega
  have HIX : Hid (∀ w : World, Calls Try.prog 77 #[.string ⟨#[8, 16, 32, 64]⟩, .int .u8 (bt s 7)] w fun e w' => e = .returned (.int .i64 (Lib.indexByte [8, 16, 32, 64] (bt s 7).toNat.toUInt8)) ∧ w = w') := fun w => indexByte_any _ _ w
  have HID : Hid _ := idx_m0 (bt s 7) (bt_nonneg s 7) (bt_le s 7)
  have HIR : Hid (isDev s = true ↔ isDevR s) := isDev_R s h18'
  have HRD : Hid (rdD s = if isDev s = true then devO s else noD) := by show _ = _; unfold rdD; rw [if_neg h18]
  have HRE : Hid (rdE s = if isDev s = true then 0 else 4) := by show _ = _; unfold rdE; rw [if_neg h18]
  have e2 : ((s.extract 0 2).toList == [18, 1]) = decide (s.extract 0 2 = ⟨#[18, 1]⟩) := by
    have := toList_beq (s.extract 0 2) ⟨#[18, 1]⟩
    rwa [show (⟨#[18, 1]⟩ : ByteArray).toList = [18, 1] by decide +kernel] at this
  obtain ⟨RD, hRD⟩ : ∃ d, rdD s = d := ⟨_, rfl⟩
  obtain ⟨RE, hRE⟩ : ∃ d, rdE s = d := ⟨_, rfl⟩
  rw [hRD] at HRD
  rw [hRE] at HRE
  rw [hRD, hRE]
  have HHM : Hid _ := hM
  clear hRD hRE hM
  generalize Lib.indexByte [8, 16, 32, 64] (bt s 7).toNat.toUInt8 = ix at *
  by_cases hgt : 18 < s.size
  · exact absurd (HIR.out.1 hyes).1 (by omega)
  have hex : s.extract 0 2 = ⟨#[18, 1]⟩ := hft.2 ⟨(HIR.out.1 hyes).2.1, (HIR.out.1 hyes).2.2.1⟩
  have h17 : ¬ bt s 17 = 0 := (HIR.out.1 hyes).2.2.2.1
  have hix : ¬ ix < 0 := fun q => by
    have h := HID.out
    rw [decide_eq_true q] at h
    have h5 := (HIR.out.1 hyes).2.2.2.2
    rw [decide_eq_true h5] at h
    simp at h
  have HDR : Hid (RD = devO s ∧ RE = 0) := by
    have : isDev s = true := HIR.out.2 ⟨by omega, (hft.1 hex).1, (hft.1 hex).2, h17, by have := HID.out; rw [decide_eq_false hix] at this; simpa using this⟩
    exact ⟨by rw [HRD.out, if_pos this], by rw [HRE.out, if_pos this]⟩
  rw [decide_eq_true hex] at e2
  have e17 : (bt s 17 == 0) = false := by simpa using h17
  have q18 : s.size = 18 := by omega
  have HW2 : Hid (∀ w : World, Calls Try.prog 60 #[.string s, .int .i64 2] w fun e w' => e = .returned (.int .i64 (wdOf (s.extract 2 s.size))) ∧ ∃ q, w' = w.drewN q) := fun w => wordAt_any s 2 w (by omega) hsm
  have HW8 : Hid (∀ w : World, Calls Try.prog 60 #[.string s, .int .i64 8] w fun e w' => e = .returned (.int .i64 (wdOf (s.extract 8 s.size))) ∧ ∃ q, w' = w.drewN q) := fun w => wordAt_any s 8 w (by omega) hsm
  have HW10 : Hid (∀ w : World, Calls Try.prog 60 #[.string s, .int .i64 10] w fun e w' => e = .returned (.int .i64 (wdOf (s.extract 10 s.size))) ∧ ∃ q, w' = w.drewN q) := fun w => wordAt_any s 10 w (by omega) hsm
  have HW12 : Hid (∀ w : World, Calls Try.prog 60 #[.string s, .int .i64 12] w fun e w' => e = .returned (.int .i64 (wdOf (s.extract 12 s.size))) ∧ ∃ q, w' = w.drewN q) := fun w => wordAt_any s 12 w (by omega) hsm
  unfold devO at HDR
  have HSZ : Hid (v.heap.size ≠ w.heap.size) := Nat.ne_of_gt hlt
  generalize s.extract 2 s.size = s2 at *
  generalize s.extract 8 s.size = s8 at *
  generalize s.extract 10 s.size = s10 at *
  generalize s.extract 12 s.size = s12 at *
  clear hft hex h17 HIR HRD HRE HID hsm
  go_enter Try.func59, Try.ntmps59
  go_wp2_with fail
  refine (HIX.out _).mono ?_
  rintro e wq ⟨rfl, rfl⟩
  clear hv hv2 hv3 y0 y1 y2 y3 y4 y5 y6 y7 y8 y9 y10 y11 n0 n1 n2 n3 n4 n5 n6 n7 n8 n9 n10 n11 z0 z1 z2 z3 z4 z5 z6 z7 z8 z9 z10 z11 r0 r1 r2 r3 r4 r5 r6 r7 r8 r9 r10 r11 g0 g1 g2 g3 g4 g5 g6 g7 g8 g9 g10 g11 f0 f1 f2 f3 f4 f5 f6 f7 f8 f9 f10 f11 hvf hzf HBf hz2 hz3 hzR hlt
  go_wp2_with fail
  have m4 := HHM.out 4
  have m5 := HHM.out 5
  have m6 := HHM.out 6
  have m7 := HHM.out 7
  have m14 := HHM.out 14
  have m15 := HHM.out 15
  have m16 := HHM.out 16
  have m17 := HHM.out 17
  obtain ⟨W0, hW0⟩ : ∃ W0, v3 = W0 := ⟨_, rfl⟩
  rw [hW0] at HB3 HR3 ⊢
  refine wp_abs (fun a0 => a0.tmps.size = 72 ∧ (∀ h, a0.tmps[0]'h = .string s)) ⟨rfl, fun _ => rfl⟩ ?_
  rintro a0 ⟨hsz, g0⟩ ha0
  refine wp_region_L (St fun L => (if L.getD 16 false = true then (if L.getD 15 false = true then some (W0.alloc (dvO ⟨wdOf s2, bt s 4, bt s 5, bt s 6, bt s 7, 0, 0, 0, 0, 0, 0, 0⟩)) else none) else if L.getD 15 false = true then some (W0.alloc (dvO noD)) else some W0)) (by kernel_rfl) (by kernel_rfl) ⟨W0, 1, rfl, rfl⟩ ?_
  have hst : ∀ k, k ≠ 15 → k ≠ 16 → ∀ L : Array Bool, (if (L.setIfInBounds k true).getD 16 false = true then (if (L.setIfInBounds k true).getD 15 false = true then some (W0.alloc (dvO ⟨wdOf s2, bt s 4, bt s 5, bt s 6, bt s 7, 0, 0, 0, 0, 0, 0, 0⟩)) else none) else if (L.setIfInBounds k true).getD 15 false = true then some (W0.alloc (dvO noD)) else some W0) = (if L.getD 16 false = true then (if L.getD 15 false = true then some (W0.alloc (dvO ⟨wdOf s2, bt s 4, bt s 5, bt s 6, bt s 7, 0, 0, 0, 0, 0, 0, 0⟩)) else none) else if L.getD 15 false = true then some (W0.alloc (dvO noD)) else some W0) := fun k h1 h2 L => by rw [getD_set_ne false h1, getD_set_ne false h2]
  refine lex_plain (.string s) (fun L => by simp only [hst 0 (by decide) (by decide)]) rfl (fun W => by simp [execOp, go_sem, hsz, g0]) ?_
  refine lex_call (.int .i64 (wdOf s2)) 60 #[.string s, .int .i64 2] (fun L => by simp only [hst 1 (by decide) (by decide)]) rfl (fun W => by simp [execOp, go_sem, hsz, g0]) (fun W => HW2.out W) ?_
  refine lex_plain (.string s) (fun L => by simp only [hst 2 (by decide) (by decide)]) rfl (fun W => by simp [execOp, go_sem, hsz, g0]) ?_
  refine lex_plain (.int .u8 (bt s 4)) (fun L => by simp only [hst 3 (by decide) (by decide)]) rfl (fun W => by simp [execOp, go_sem, hsz, g0, x4]) ?_
  refine lex_plain (.int .i64 (bt s 4)) (fun L => by simp only [hst 4 (by decide) (by decide)]) rfl (fun W => by simp [execOp, go_sem, hsz, g0, m4]) ?_
  refine lex_plain (.string s) (fun L => by simp only [hst 5 (by decide) (by decide)]) rfl (fun W => by simp [execOp, go_sem, hsz, g0]) ?_
  refine lex_plain (.int .u8 (bt s 5)) (fun L => by simp only [hst 6 (by decide) (by decide)]) rfl (fun W => by simp [execOp, go_sem, hsz, g0, x5]) ?_
  refine lex_plain (.int .i64 (bt s 5)) (fun L => by simp only [hst 7 (by decide) (by decide)]) rfl (fun W => by simp [execOp, go_sem, hsz, g0, m5]) ?_
  refine lex_plain (.string s) (fun L => by simp only [hst 8 (by decide) (by decide)]) rfl (fun W => by simp [execOp, go_sem, hsz, g0]) ?_
  refine lex_plain (.int .u8 (bt s 6)) (fun L => by simp only [hst 9 (by decide) (by decide)]) rfl (fun W => by simp [execOp, go_sem, hsz, g0, x6]) ?_
  refine lex_plain (.int .i64 (bt s 6)) (fun L => by simp only [hst 10 (by decide) (by decide)]) rfl (fun W => by simp [execOp, go_sem, hsz, g0, m6]) ?_
  refine lex_plain (.string s) (fun L => by simp only [hst 11 (by decide) (by decide)]) rfl (fun W => by simp [execOp, go_sem, hsz, g0]) ?_
  refine lex_plain (.int .u8 (bt s 7)) (fun L => by simp only [hst 12 (by decide) (by decide)]) rfl (fun W => by simp [execOp, go_sem, hsz, g0, x7]) ?_
  refine lex_plain (.int .i64 (bt s 7)) (fun L => by simp only [hst 13 (by decide) (by decide)]) rfl (fun W => by simp [execOp, go_sem, hsz, g0, m7]) ?_
  refine lex_plain (.agg #[.int .i64 (wdOf s2), .int .i64 (bt s 4), .int .i64 (bt s 5), .int .i64 (bt s 6), .int .i64 (bt s 7), .int .i64 0, .int .i64 0, .int .i64 0, .int .i64 0, .int .i64 0, .int .i64 0, .int .i64 0]) (fun L => by simp only [hst 14 (by decide) (by decide)]) rfl (fun W => by simp [execOp, go_sem, hsz, g0]) ?_
  refine lex_turn (.pointer (some ⟨W0.heap.size, 0, none⟩)) rfl (fun L W n hr hs => ?_) ?_
  · obtain ⟨h37, hz37⟩ := rdy_at hr
    have h37' : (L.setIfInBounds 15 true).getD 15 false = true := set_same hz37
    have h38' : (L.setIfInBounds 15 true).getD 16 false = L.getD 16 false := getD_set_ne false (by decide)
    have h37 : L.getD 15 false = false := h37
    cases h38 : L.getD 16 false
    · simp only [h38, h37] at hs
      have hs : some W0 = some W := hs
      injection hs with hs
      subst hs
      refine ⟨W0.alloc (dvO noD), ?_, .inl ?_⟩
      · show (if (L.setIfInBounds 15 true).getD 16 false = true then _ else if (L.setIfInBounds 15 true).getD 15 false = true then _ else _) = _
        rw [h38', h38, h37']
        rfl
      · simp [execOp, go_sem, noD, hsz, g0]
        rfl
    · simp only [h38, h37] at hs
      have hs : (none : Option World) = some W := hs
      cases hs
  refine lex_turn undef rfl (fun L W n hr hs => ?_) ?_
  · obtain ⟨h38, hz38⟩ := rdy_at hr
    have h37 : L.getD 15 false = true := rdy_after hr (by kernel_rfl)
    have h38 : L.getD 16 false = false := h38
    have h38' : (L.setIfInBounds 16 true).getD 16 false = true := set_same hz38
    have h37' : (L.setIfInBounds 16 true).getD 15 false = L.getD 15 false := getD_set_ne false (by decide)
    simp only [h38, h37] at hs
    have hs : some (W0.alloc (dvO noD)) = some W := hs
    injection hs with hs
    subst hs
    refine ⟨W0.alloc (dvO ⟨wdOf s2, bt s 4, bt s 5, bt s 6, bt s 7, 0, 0, 0, 0, 0, 0, 0⟩), ?_, .inr ⟨?_, rfl⟩⟩
    · show (if (L.setIfInBounds 16 true).getD 16 false = true then (if (L.setIfInBounds 16 true).getD 15 false = true then _ else _) else _) = _
      rw [h38', h37', h37]
      rfl
    · simp [execOp, go_sem, noD, hsz, g0]
      simp only [set_drewN]
      simp [go_sem]
  intro w' hw'
  subst ha0
  clear hsz g0
  obtain ⟨W, n, hs, rfl⟩ := hw'
  have hs2 : some (W0.alloc (dvO ⟨wdOf s2, bt s 4, bt s 5, bt s 6, bt s 7, 0, 0, 0, 0, 0, 0, 0⟩)) = some W := hs
  injection hs2 with hs2
  subst hs2
  obtain ⟨u, hu⟩ : ∃ u, (W0.alloc (dvO ⟨wdOf s2, bt s 4, bt s 5, bt s 6, bt s 7, 0, 0, 0, 0, 0, 0, 0⟩)).drewN n = u := ⟨_, rfl⟩
  have HB : Hid (Below w.heap.size w u) := by show Below _ _ _; rw [← hu]; exact below_drewN (bsq HB3.out (balloc _ _)) _
  have HX : Hid (u.heap[W0.heap.size]? = some (dvO ⟨wdOf s2, bt s 4, bt s 5, bt s 6, bt s 7, 0, 0, 0, 0, 0, 0, 0⟩)) := by show _ = _; rw [← hu]; exact (MapKept.heap_alloc W0 _).1
  have HR : Hid (u.heap[w.heap.size]? = some (dvO noD)) := by show _ = _; rw [← hu]; exact res_below HR3.out (below_drewN (balloc _ _) _)
  have hXL : w.heap.size < W0.heap.size := (Array.getElem?_eq_some_iff.1 HR3.out).1
  rw [hu]
  obtain ⟨XB, hXB⟩ : ∃ X, W0.heap.size = X := ⟨_, rfl⟩
  rw [hXB] at HX hXL ⊢
  have HXR : Hid (w.heap.size ≠ XB) := Nat.ne_of_lt hXL
  have HXL : Hid (w.heap.size ≤ XB) := Nat.le_of_lt hXL
  clear hu hs hst hXB hW0 HB3 HR3 hXL
  go_wp2_with fail
  refine (HW8.out _).mono ?_
  rintro e ua ⟨rfl, qa, hqa⟩
  go_wp2_with fail
  refine (HW10.out _).mono ?_
  rintro e ub ⟨rfl, qb, hqb⟩
  go_wp2_with fail
  refine (HW12.out _).mono ?_
  rintro e uc ⟨rfl, qc, hqc⟩
  have hBc : Below w.heap.size w uc := by rw [hqc]; exact below_drewN (below_drewN HB.out _) _
  have hXc : uc.heap[XB]? = some (dvO ⟨wdOf s2, bt s 4, bt s 5, bt s 6, bt s 7, 0, 0, 0, 0, 0, 0, 0⟩) := by rw [hqc]; exact HX.out
  have hRc : uc.heap[w.heap.size]? = some (dvO noD) := by rw [hqc]; exact HR.out
  obtain ⟨⟨hzc, c0, c1, c2, c3, c4, c5, c6, c7, c8, c9, c10, c11⟩, hfc⟩ := box12 (d := ⟨wdOf s2, bt s 4, bt s 5, bt s 6, bt s 7, 0, 0, 0, 0, 0, 0, 0⟩) hXc
  have f5 := hfc 5
  have f6 := hfc 6
  have f7 := hfc 7
  have k5 := cset1 (cs' := #[.int .i64 (wdOf s2), .int .i64 (bt s 4), .int .i64 (bt s 5), .int .i64 (bt s 6), .int .i64 (bt s 7), .int .i64 (wdOf s8), .int .i64 0, .int .i64 0, .int .i64 0, .int .i64 0, .int .i64 0, .int .i64 0]) 5 (.int .i64 (wdOf s8)) hXc rfl
  have k6 := cset1 (cs' := #[.int .i64 (wdOf s2), .int .i64 (bt s 4), .int .i64 (bt s 5), .int .i64 (bt s 6), .int .i64 (bt s 7), .int .i64 (wdOf s8), .int .i64 (wdOf s10), .int .i64 0, .int .i64 0, .int .i64 0, .int .i64 0, .int .i64 0]) 6 (.int .i64 (wdOf s10)) k5 rfl
  have k7 := cset1 (cs' := #[.int .i64 (wdOf s2), .int .i64 (bt s 4), .int .i64 (bt s 5), .int .i64 (bt s 6), .int .i64 (bt s 7), .int .i64 (wdOf s8), .int .i64 (wdOf s10), .int .i64 (wdOf s12), .int .i64 0, .int .i64 0, .int .i64 0, .int .i64 0]) 7 (.int .i64 (wdOf s12)) k6 rfl
  obtain ⟨ud, hud⟩ : ∃ ud, ((uc.setCell ⟨XB, 5, none⟩ (.int .i64 (wdOf s8))).setCell ⟨XB, 6, none⟩ (.int .i64 (wdOf s10))).setCell ⟨XB, 7, none⟩ (.int .i64 (wdOf s12)) = ud := ⟨_, rfl⟩
  have HC0 : Hid (C8 w XB w.heap.size (D8 (wdOf s2) (bt s 4) (bt s 5) (bt s 6) (bt s 7) (wdOf s8) (wdOf s10) (wdOf s12)) (bt s 14) (bt s 15) (bt s 16) (bt s 17) (Array.replicate 20 false) ud.drew) := by
    rw [hud] at k7
    refine ⟨k7, ?_, ?_⟩
    · show ud.heap[w.heap.size]? = _
      rw [← hud]
      exact res_set (res_set (res_set hRc HXR.out) HXR.out) HXR.out
    · rw [← hud]
      exact ((((hBc.setCell HXL.out _).setCell HXL.out _).setCell HXL.out _)).drew
  simp only at c0 c1 c2 c3 c4 c5 c6 c7 c8 c9 c10 c11
  clear hqc hBc hXc hRc k5 k6 k7 hfc HX HR HB HW2 HW8 HW10 HW12
  go_wp2_with fail
  try rw [hud]
  refine wp_abs (fun a0 => a0.tmps.size = 72 ∧ (∀ h, a0.tmps[0]'h = .string s) ∧ (∀ h, a0.tmps[5]'h = .pointer (some ⟨XB, 0, none⟩))) ⟨rfl, fun _ => rfl, fun _ => rfl⟩ ?_
  rintro a0 ⟨hsz, g0, g5⟩ ha0
  refine wp_region_L (C8 w XB w.heap.size (D8 (wdOf s2) (bt s 4) (bt s 5) (bt s 6) (bt s 7) (wdOf s8) (wdOf s10) (wdOf s12)) (bt s 14) (bt s 15) (bt s 16) (bt s 17)) (by kernel_rfl) (by kernel_rfl) HC0.out ?_
  refine lexg (.string s) rfl (fun L W hr hC => by simp only [execOp]; simp [go_sem, hsz, g0, g5, rUpon]; exact C8_keep 0 (by decide) (by decide) (by decide) (by decide) hC) ?_
  refine lexg (.int .u8 (bt s 14)) rfl (fun L W hr hC => by simp only [execOp]; simp [go_sem, hsz, g0, g5, x14, rUpon]; exact C8_keep 1 (by decide) (by decide) (by decide) (by decide) hC) ?_
  refine lexg (.int .i64 (bt s 14)) rfl (fun L W hr hC => by simp only [execOp]; simp [go_sem, hsz, g0, g5, m14, rUpon]; exact C8_keep 2 (by decide) (by decide) (by decide) (by decide) hC) ?_
  refine lexg (.string s) rfl (fun L W hr hC => by simp only [execOp]; simp [go_sem, hsz, g0, g5, rUpon]; exact C8_keep 3 (by decide) (by decide) (by decide) (by decide) hC) ?_
  refine lexg (.int .u8 (bt s 15)) rfl (fun L W hr hC => by simp only [execOp]; simp [go_sem, hsz, g0, g5, x15, rUpon]; exact C8_keep 4 (by decide) (by decide) (by decide) (by decide) hC) ?_
  refine lexg (.int .i64 (bt s 15)) rfl (fun L W hr hC => by simp only [execOp]; simp [go_sem, hsz, g0, g5, m15, rUpon]; exact C8_keep 5 (by decide) (by decide) (by decide) (by decide) hC) ?_
  refine lexg (.string s) rfl (fun L W hr hC => by simp only [execOp]; simp [go_sem, hsz, g0, g5, rUpon]; exact C8_keep 6 (by decide) (by decide) (by decide) (by decide) hC) ?_
  refine lexg (.int .u8 (bt s 16)) rfl (fun L W hr hC => by simp only [execOp]; simp [go_sem, hsz, g0, g5, x16, rUpon]; exact C8_keep 7 (by decide) (by decide) (by decide) (by decide) hC) ?_
  refine lexg (.int .i64 (bt s 16)) rfl (fun L W hr hC => by simp only [execOp]; simp [go_sem, hsz, g0, g5, m16, rUpon]; exact C8_keep 8 (by decide) (by decide) (by decide) (by decide) hC) ?_
  refine lexg (.string s) rfl (fun L W hr hC => by simp only [execOp]; simp [go_sem, hsz, g0, g5, rUpon]; exact C8_keep 9 (by decide) (by decide) (by decide) (by decide) hC) ?_
  refine lexg (.int .u8 (bt s 17)) rfl (fun L W hr hC => by simp only [execOp]; simp [go_sem, hsz, g0, g5, x17, rUpon]; exact C8_keep 10 (by decide) (by decide) (by decide) (by decide) hC) ?_
  refine lexg (.int .i64 (bt s 17)) rfl (fun L W hr hC => by simp only [execOp]; simp [go_sem, hsz, g0, g5, m17, rUpon]; exact C8_keep 11 (by decide) (by decide) (by decide) (by decide) hC) ?_
  refine lexg (.pointer (some ⟨XB, 8, none⟩)) rfl (fun L W hr hC => by simp only [execOp]; simp [go_sem, hsz, g0, g5, rUpon]; exact C8_keep 12 (by decide) (by decide) (by decide) (by decide) hC) ?_
  refine lexg undef rfl (fun L W hr hC => by have hz : 13 < L.size := (rdy_at hr).2; have hq := C8_set0 hz hC HXR.out HXL.out; have hq1 := hq.1; have hq2 := hq.2.1; have hq3 := hq.2.2; simp only [execOp]; simp [go_sem, hsz, g0, g5, rUpon, hq1, hq2]; exact hq3) ?_
  refine lexg (.pointer (some ⟨XB, 9, none⟩)) rfl (fun L W hr hC => by simp only [execOp]; simp [go_sem, hsz, g0, g5, rUpon]; exact C8_keep 14 (by decide) (by decide) (by decide) (by decide) hC) ?_
  refine lexg undef rfl (fun L W hr hC => by have hz : 15 < L.size := (rdy_at hr).2; have hq := C8_set1 hz hC HXR.out HXL.out; have hq1 := hq.1; have hq2 := hq.2.1; have hq3 := hq.2.2; simp only [execOp]; simp [go_sem, hsz, g0, g5, rUpon, hq1, hq2]; exact hq3) ?_
  refine lexg (.pointer (some ⟨XB, 10, none⟩)) rfl (fun L W hr hC => by simp only [execOp]; simp [go_sem, hsz, g0, g5, rUpon]; exact C8_keep 16 (by decide) (by decide) (by decide) (by decide) hC) ?_
  refine lexg undef rfl (fun L W hr hC => by have hz : 17 < L.size := (rdy_at hr).2; have hq := C8_set2 hz hC HXR.out HXL.out; have hq1 := hq.1; have hq2 := hq.2.1; have hq3 := hq.2.2; simp only [execOp]; simp [go_sem, hsz, g0, g5, rUpon, hq1, hq2]; exact hq3) ?_
  refine lexg (.pointer (some ⟨XB, 11, none⟩)) rfl (fun L W hr hC => by simp only [execOp]; simp [go_sem, hsz, g0, g5, rUpon]; exact C8_keep 18 (by decide) (by decide) (by decide) (by decide) hC) ?_
  refine lexg undef rfl (fun L W hr hC => by have hz : 19 < L.size := (rdy_at hr).2; have hq := C8_set3 hz hC HXR.out HXL.out; have hq1 := hq.1; have hq2 := hq.2.1; have hq3 := hq.2.2; simp only [execOp]; simp [go_sem, hsz, g0, g5, rUpon, hq1, hq2]; exact hq3) ?_
  intro w' hw'
  subst ha0
  clear hsz g0 g5
  have hXw : w'.heap[XB]? = some (dvO ⟨wdOf s2, bt s 4, bt s 5, bt s 6, bt s 7, wdOf s8, wdOf s10, wdOf s12, bt s 14, bt s 15, bt s 16, bt s 17⟩) := hw'.1
  have hRw : w'.heap[w.heap.size]? = some (dvO noD) := hw'.2.1
  have hBw : Below w.heap.size w w' := hw'.2.2
  obtain ⟨⟨hzw, d0, d1, d2, d3, d4, d5, d6, d7, d8, d9, d10, d11⟩, _⟩ := box12 (d := ⟨wdOf s2, bt s 4, bt s 5, bt s 6, bt s 7, wdOf s8, wdOf s10, wdOf s12, bt s 14, bt s 15, bt s 16, bt s 17⟩) hXw
  obtain ⟨⟨hzR, z0, z1, z2, z3, z4, z5, z6, z7, z8, z9, z10, z11⟩, hfr⟩ := box12 (d := noD) hRw
  have t0 := hfr 0
  have t1 := hfr 1
  have t2 := hfr 2
  have t3 := hfr 3
  have t4 := hfr 4
  have t5 := hfr 5
  have t6 := hfr 6
  have t7 := hfr 7
  have t8 := hfr 8
  have t9 := hfr 9
  have t10 := hfr 10
  have t11 := hfr 11
  obtain ⟨vf, hvf, hRf, hBf, _⟩ := ch12 w' w.heap.size noD ⟨wdOf s2, bt s 4, bt s 5, bt s 6, bt s 7, wdOf s8, wdOf s10, wdOf s12, bt s 14, bt s 15, bt s 16, bt s 17⟩ hRw
  have HBf : Hid (Below w.heap.size w vf) := hBf w (Nat.le_refl _) hBw
  obtain ⟨⟨hzf, r0, r1, r2, r3, r4, r5, r6, r7, r8, r9, r10, r11⟩, _⟩ := box12 (d := ⟨wdOf s2, bt s 4, bt s 5, bt s 6, bt s 7, wdOf s8, wdOf s10, wdOf s12, bt s 14, bt s 15, bt s 16, bt s 17⟩) hRf
  simp only [noD] at z0 z1 z2 z3 z4 z5 z6 z7 z8 z9 z10 z11 r0 r1 r2 r3 r4 r5 r6 r7 r8 r9 r10 r11 hvf d0 d1 d2 d3 d4 d5 d6 d7 d8 d9 d10 d11
  clear hw' hXw hRw hBw hfr hRf hBf HC0 hud c0 c1 c2 c3 c4 c5 c6 c7 c8 c9 c10 c11 f5 f6 f7 x4 x5 x6 x7 x14 x15 x16 x17 m4 m5 m6 m7 m14 m15 m16 m17
  go_simp
  go_wp2
  try rw [hvf]
  exact bodyPost_ret (v := .tuple #[dvV ⟨wdOf s2, bt s 4, bt s 5, bt s 6, bt s 7, wdOf s8, wdOf s10, wdOf s12, bt s 14, bt s 15, bt s 16, bt s 17⟩, .int .i64 0]) (by simp [results, Try.results59, go_sem, hzf, r0, r1, r2, r3, r4, r5, r6, r7, r8, r9, r10, r11]) rfl ⟨by rw [HDR.out.1, HDR.out.2], HBf.out⟩
end Go.Proofs.Ytonheibhbilhhaa.desc

/- plugref's devices: what ReadDevice answers of any text. -/
namespace Go.Proofs.Ytonheibhbilhhaa.desc
open Go.RowKit Go.PlainAid Go.Proofs.Ytonheibhbilhhaa.lane
set_option linter.unusedVariables false
set_option linter.unusedSimpArgs false

theorem rreadDevice_any (s : ByteArray) (w : World) (hs : s.size ≤ maxLen) :
    Calls Try.prog 59 #[.string s] w fun e w' => e = .returned (.tuple #[dvV (rdD s), .int .i64 (rdE s)]) ∧ Below w.heap.size w w' := by
  by_cases h18 : s.size < 18
  · exact rread_short s w hs h18
  · by_cases hd : isDev s = true
    · exact rread_yes s w hs h18 hd
    · exact rread_no s w hs h18 hd
end Go.Proofs.Ytonheibhbilhhaa.desc
