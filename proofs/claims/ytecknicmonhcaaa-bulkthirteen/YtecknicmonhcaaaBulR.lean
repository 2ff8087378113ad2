/- plugref's bulk: the small functions. -/
import Derived.Test.YtecknicmonhcaaaBulB
import Derived.Test.YtecknicmonhcaaaScsR
import Derived.BigQuiet
namespace Go.Proofs.Ytecknicmonhcaaa.bulk
open Go Go.RowKit Go.PlainAid Go.Proofs.Ytecknicmonhcaaa.lane Go.Proofs.Ytecknicmonhcaaa.pipe Go.Proofs.Ytecknicmonhcaaa.strike
open Go.Proofs.Ytecknicmonhcaaa.scsi (bt_range run_part between_any two_any)
set_option linter.unusedVariables false
set_option linter.unusedSimpArgs false
set_option maxRecDepth 100000

def wrd (n : Int) : List Int := [n % 256, n / 256]
theorem two_conv (x y : Int) (w : World) : (convert 54 9 (.slice (some ⟨w.heap.size, 0, none⟩) 2 2)).run Try.prog (w.alloc (.cells #[.int .u8 x, .int .u8 y] 5)) = .ok (.string (strOfNums [x, y])) (w.alloc (.cells #[.int .u8 x, .int .u8 y] 5)) := by
  refine run_convert_bytes_arg _ 54 5 Try.underlying54 Try.underlying5 w.heap.size 0 2 2 [x, y] rfl ?_ 9 Try.underlying9
  intro i hi
  match i, hi with
  | 0, _ => simp
  | 1, _ => simp
theorem twoBytes_any (n : Int) (h0 : 0 ≤ n) (h1 : n ≤ 65535) (w : World) :
    Calls Try.prog 48 #[.int .i64 n] w fun e w' => e = .returned (.string (strOfNums (wrd n))) ∧ Below w.heap.size w w' := by
  have hc := two_conv (n % 256) (n / 256) w
  have he : n / 256 % 256 = n / 256 := by omega
  unfold wrd
  go_enter Try.func48, Try.ntmps48
  go_wp2
  go_ret
  exact ⟨rfl, (Below.refl _ _).alloc (Nat.le_refl _) _⟩
set_option maxHeartbeats 400000 in
theorem wordAt_any (s : ByteArray) (k : Nat) (w : World) (hk : k + 1 < s.size) (hs : s.size ≤ maxLen) :
    Calls Try.prog 55 #[.string s, .int .i64 (k : Int)] w fun e w' => e = .returned (.int .i64 ((nums s).getD k 0 + 256 * (nums s).getD (k + 1) 0)) ∧ Below w.heap.size w w' := by
  unfold maxLen at hs
  have x0 : ∀ W : World, (Instr.index 9 (.string s) (.int .i64 (k : Int))).run Try.prog W = .ok (.int .u8 (bt s k)) W := run_ix s k (by omega)
  have x1 : ∀ W : World, (Instr.index 9 (.string s) (.int .i64 ((k : Int) + 1))).run Try.prog W = .ok (.int .u8 (bt s (k + 1))) W := run_ix s (k + 1) (by omega)
  obtain ⟨b0, b1⟩ := bt_range s k
  obtain ⟨c0, c1⟩ := bt_range s (k + 1)
  have HN : Hid (256 * bt s (k + 1) + bt s k = (nums s).getD k 0 + 256 * (nums s).getD (k + 1) 0) := by
    show _ = _
    rw [bt_nums s k (by omega), bt_nums s (k + 1) (by omega)]; omega
  generalize (nums s).getD k 0 + 256 * (nums s).getD (k + 1) 0 = N at *
  generalize bt s (k + 1) = y at *
  generalize bt s k = x at *
  go_enter Try.func55, Try.ntmps55
  go_wp2_with fail
  go_quiet (fail)
  go_wp2
  go_ret
  rw [HN.out]
  exact ⟨rfl, below_drewN (Below.refl _ _) _⟩
theorem low_any (n : Int) (h0 : 0 ≤ n) (h1 : n ≤ 4294967295) (w : World) : Calls Try.prog 30 #[.int .i64 n] w fun e w' => e = .returned (.string (strOfNums (le4 n))) ∧ Below w.heap.size w w' := by
  have HA : Hid (∀ u, Calls Try.prog 48 #[.int .i64 (n % 65536)] u fun e w' => e = .returned (.string (strOfNums (wrd (n % 65536)))) ∧ Below u.heap.size u w') := fun u => twoBytes_any _ (by omega) (by omega) u
  have HB : Hid (∀ u, Calls Try.prog 48 #[.int .i64 (n / 65536)] u fun e w' => e = .returned (.string (strOfNums (wrd (n / 65536)))) ∧ Below u.heap.size u w') := fun u => twoBytes_any _ (by omega) (by omega) u
  have HE : Hid (strOfNums (wrd (n % 65536)) ++ strOfNums (wrd (n / 65536)) = strOfNums (le4 n)) := by
    show _ = _
    rw [← str_append]
    congr 1
    have e1 : n % 65536 % 256 = n % 256 := by omega
    have e2 : n % 65536 / 256 = n / 256 % 256 := by omega
    have e3 : n / 65536 / 256 = n / 16777216 % 256 := by omega
    simp only [wrd, le4, List.cons_append, List.nil_append, e1, e2, e3]
  have z1 : (strOfNums (wrd (n % 65536))).size = 2 := str_size _
  have z2 : (strOfNums (wrd (n / 65536))).size = 2 := str_size _
  generalize strOfNums (wrd (n % 65536)) = a at *
  generalize strOfNums (wrd (n / 65536)) = b at *
  have h2 : IntKind.i64.wrap (n % 65536) = n % 65536 := by rw [IntKind.wrap_i64]; omega
  go_enter Try.func30, Try.ntmps30
  go_wp2_with fail
  refine (HA.out _).mono ?_
  rintro e u ⟨rfl, hb⟩
  have H1 : Hid (Below w.heap.size w u) := hb
  clear hb HA
  go_wp2_with fail
  refine (HB.out _).mono ?_
  rintro e u2 ⟨rfl, hb⟩
  have H2 : Hid (Below w.heap.size w u2) := bsq H1.out hb
  clear hb HB H1
  go_wp2
  go_ret
  rw [HE.out]
  exact ⟨rfl, H2.out⟩
theorem rlong_any (n : Int) (w : World) : Calls Try.prog 27 #[.int .i64 n] w fun e w' => e = .returned (.bool (lgB n)) ∧ w = w' := by
  have H2 : Hid (∀ u, Calls Try.prog 47 #[.int .i64 32] u fun e w' => e = .returned (.int .i64 4294967296) ∧ u = w') := fun u => two_any 32 (by omega) u
  have HB : Hid (∀ u, Calls Try.prog 28 #[.int .i64 n, .int .i64 0, .int .i64 4294967295] u fun e w' => e = .returned (.bool (decide (0 ≤ n) && decide (n ≤ 4294967295))) ∧ u = w') := fun u => between_any n 0 4294967295 u
  unfold lgB
  generalize (decide (0 ≤ n) && decide (n ≤ 4294967295)) = b at *
  go_enter Try.func27, Try.ntmps27
  go_wp2_with fail
  refine (H2.out _).mono ?_
  rintro e u ⟨rfl, rfl⟩
  clear H2
  go_wp2_with fail
  refine (HB.out _).mono ?_
  rintro e u ⟨rfl, rfl⟩
  clear HB
  go_wp2
  go_ret
  exact ⟨rfl, rfl⟩
theorem lowNum_any (s : ByteArray) (w : World) (h4 : 4 ≤ s.size) (hs : s.size ≤ maxLen) :
    Calls Try.prog 33 #[.string s] w fun e w' => e = .returned (.int .i64 (lgL (nums s) 0)) ∧ Below w.heap.size w w' := by
  have hb := nums_byt s
  have b0 := byt_getD hb 0
  have b1 := byt_getD hb 1
  have b2 := byt_getD hb 2
  have b3 := byt_getD hb 3
  have HA : Hid (∀ u, Calls Try.prog 55 #[.string s, .int .i64 0] u fun e w' => e = .returned (.int .i64 ((nums s).getD 0 0 + 256 * (nums s).getD 1 0)) ∧ Below u.heap.size u w') := fun u => wordAt_any s 0 u (by omega) hs
  have HB : Hid (∀ u, Calls Try.prog 55 #[.string s, .int .i64 2] u fun e w' => e = .returned (.int .i64 ((nums s).getD 2 0 + 256 * (nums s).getD 3 0)) ∧ Below u.heap.size u w') := fun u => wordAt_any s 2 u (by omega) hs
  have HN : Hid ((nums s).getD 0 0 + 256 * (nums s).getD 1 0 + 65536 * ((nums s).getD 2 0 + 256 * (nums s).getD 3 0) = lgL (nums s) 0) := by
    show _ = _
    unfold lgL
    simp only [Nat.zero_add]
    omega
  obtain ⟨p, hp⟩ : ∃ p, (nums s).getD 0 0 + 256 * (nums s).getD 1 0 = p := ⟨_, rfl⟩
  obtain ⟨q, hq⟩ : ∃ q, (nums s).getD 2 0 + 256 * (nums s).getD 3 0 = q := ⟨_, rfl⟩
  have p0 : 0 ≤ p := by omega
  have p1 : p ≤ 65535 := by omega
  have q0 : 0 ≤ q := by omega
  have q1 : q ≤ 65535 := by omega
  rw [hp] at HA HN
  rw [hq] at HB HN
  generalize lgL (nums s) 0 = N at *
  clear hp hq b0 b1 b2 b3 hb
  go_enter Try.func33, Try.ntmps33
  go_wp2_with fail
  refine (HA.out _).mono ?_
  rintro e u ⟨rfl, hb⟩
  have H1 : Hid (Below w.heap.size w u) := hb
  clear hb HA
  go_wp2_with fail
  refine (HB.out _).mono ?_
  rintro e u2 ⟨rfl, hb⟩
  have H2 : Hid (Below w.heap.size w u2) := bsq H1.out hb
  clear hb HB H1
  go_wp2
  go_ret
  rw [HN.out]
  exact ⟨rfl, H2.out⟩
/-- numbers that are read -/
def Rn (w : World) (v : Value) (us : List Int) : Prop := ∃ g, v = .slice (some ⟨g, 0, none⟩) us.length us.length ∧ g < w.heap.size ∧ ∀ j x, us[j]? = some x → w.cell? ⟨g, j, none⟩ = some (.int .i64 x)
set_option maxHeartbeats 2000000 in
theorem bytesOf_any (v : Value) (us : List Int) (w : World) (h : Rn w v us) (hb : Byt us) (hl : us.length ≤ 1000) :
    Calls Try.prog 29 #[v] w fun e w' => e = .returned (.tuple #[.string (strOfNums us), .bool true]) ∧ Below w.heap.size w w' := by
  obtain ⟨g, rfl, hg, hc⟩ := h
  have HC : Hid (∀ W : World, Below w.heap.size w W → ∀ j x, us[j]? = some x → W.cell? ⟨g, j, none⟩ = some (.int .i64 x)) := fun W hW j x hx => (hW.cell (p := ⟨g, j, none⟩) hg).trans (hc j x hx)
  have HY : Hid (∀ x ∈ us, 0 ≤ x ∧ x ≤ 255) := hb
  obtain ⟨n, hn⟩ : ∃ n, us.length = n := ⟨_, rfl⟩
  have HN : Hid (us.length = n) := hn
  rw [hn] at hl ⊢
  clear hc hb hn hg
  go_enter Try.func29, Try.ntmps29
  go_wp2
  go_loopw [4, 9] (fun ov i wr => ∃ (k : Nat) (acc : List Int), k ≤ n ∧ i = .int .i64 (k : Int) ∧ acc.length = k ∧ Bys wr w.heap.size ov acc ∧ Below w.heap.size w wr ∧ Hid (acc ++ us.drop k = us)) (fun _ i _ => n - (intOf i).toNat)
  case atStart => exact ⟨0, [], Nat.zero_le _, rfl, rfl, Bys.nil _ _, Below.refl _ _, rfl⟩
  case round =>
    obtain ⟨k, acc, hk, rfl, hal, hX, hb, HA⟩ := hrel
    have HX : Hid (Bys wr w.heap.size u4 acc) := hX
    have HB : Hid (Below w.heap.size w wr) := hb
    have hsz := hb.size
    by_cases hlt : k < n
    · have hk1 : k < us.length := by have := HN.out; omega
      have c1 := HC.out wr hb k us[k] (List.getElem?_eq_getElem hk1)
      obtain ⟨hx0, hx1⟩ := HY.out us[k] (List.getElem_mem hk1)
      have hA := HA.out
      rw [List.drop_eq_getElem_cons hk1, List.append_cons] at hA
      generalize us[k] = x at c1 hA hx0 hx1
      have HBt : Hid (∀ w : World, Calls Try.prog 28 #[.int .i64 x, .int .i64 0, .int .i64 255] w fun e w' => e = .returned (.bool true) ∧ w = w') := fun w => by
        have := between_any x 0 255 w
        rw [decide_eq_true hx0, decide_eq_true hx1] at this
        exact this
      have H2 : Hid (acc ++ [x] ++ us.drop (k + 1) = us) := hA
      clear HC HN HA hA hX hb HY
      go_wp2_with fail
      refine (HBt.out _).mono ?_
      rintro e wa ⟨rfl, rfl⟩
      go_wp2_with (at_builtin; (refine wpList_bys _ rfl _ _ rfl w.heap.size _ acc rfl (World.ownsRow.alloc HX.out _) wr.heap.size 1 1 [x] rfl rfl (bys_new wr [x] _) (by omega) (by omega) (by simp; omega) ?_))
      intro v' w2 h2 hb2
      have HX2 : Hid (Bys w2 w.heap.size v' (acc ++ [x])) := h2
      have HB2 : Hid (Below w.heap.size w w2) := (HB.out.alloc (by omega) _).trans hb2
      clear h2 hb2 HX HB
      go_wp2
      go_roundw
      case rel => exact ⟨k + 1, acc ++ [x], by omega, by go_num, by rw [List.length_append, hal]; rfl, HX2.out, HB2.out, H2⟩
      case measure => simp [intOf]; omega
    · have hA := HA.out
      rw [List.drop_eq_nil_of_le (by have := HN.out; omega), List.append_nil] at hA
      subst hA
      have hcv := HX.out.conv
      clear HC HN HA hX hb HY
      go_wp2
      go_ret2
      exact ⟨rfl, HB.out⟩
end Go.Proofs.Ytecknicmonhcaaa.bulk
