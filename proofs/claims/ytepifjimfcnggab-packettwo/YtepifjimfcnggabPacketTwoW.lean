/- PacketTwo: the walk. -/
import Derived.Test.YtepifjimfcnggabPackL
import Derived.Test.YtepifjimfcnggabPackT
import Derived.Test.YtepifjimfcnggabByts
import Derived.Deep.RegionHeld3
namespace Go.Proofs.Ytepifjimfcnggab.packetTwo
open Go.RowKit Go.PlainAid Go.Proofs.Ytepifjimfcnggab.lane Go.Proofs.Ytepifjimfcnggab.crc Go.Proofs.Ytepifjimfcnggab.pack

theorem shl8_all : ∀ i : Fin 8, (2 ^ i.val < 256) ∧ (2 : Int) ^ i.val % 256 = ((2 ^ i.val : Nat) : Int) := by decide +kernel
theorem shl8 (i : Nat) (hi : i < 8) : ∃ p : Nat, p = 2 ^ i ∧ p < 256 ∧ (2 : Int) ^ i % 256 = (p : Int) :=
  ⟨_, rfl, (shl8_all ⟨i, hi⟩).1, (shl8_all ⟨i, hi⟩).2⟩
theorem turn_step {F : Int} {r : List Int} (hb : Byt r) (i : Nat) (x : Int) (hx : (F :: r)[i / 8 + 1]? = some x) :
    ∃ r', (F :: r).set (i / 8 + 1) ((x.toNat ^^^ 2 ^ (i % 8) : Nat) : Int) = F :: r' ∧ Byt r' ∧ r'.length = r.length ∧ txt r' = txt r ^^^ 2 ^ i := by
  rw [List.getElem?_cons_succ] at hx
  have hxb := hb x (List.mem_of_getElem? hx)
  refine ⟨r.set (i / 8) ((x.toNat ^^^ 2 ^ (i % 8) : Nat) : Int), by rw [List.set_cons_succ], byt_set hb _ _ (xor_lt8 (by omega) (pow8 ⟨i % 8, by omega⟩)), List.length_set, ?_⟩
  rw [txt_set r (i / 8) (i % 8) x hb hx (by omega), show 8 * (i / 8) + i % 8 = i by omega]
/-- one byte of a row in memory is turned -/
theorem turn_one {l : List Int} {F : Int} {r : List Int} (hl : l = F :: r) (hb : Byt l) (h2 : r.length = 2) (i : Nat) (hi : i < 16) :
    ∃ (x : Int) (p y : Nat) (r' : List Int), l.getD (i / 8 + 1) 0 = x ∧ 0 ≤ x ∧ x ≤ 255 ∧ p < 256 ∧ (2 : Int) ^ (i % 8) % 256 = (p : Int) ∧ y < 256 ∧ bits BinOp.xor IntKind.u8 x (p : Int) = (y : Int) ∧
      l.set (i / 8 + 1) (y : Int) = F :: r' ∧ Byt (F :: r') ∧ r'.length = 2 ∧ txt r' = txt r ^^^ 2 ^ i := by
  subst hl
  have hrb : Byt r := byt_tail hb
  have hg : (F :: r)[i / 8 + 1]? = some ((F :: r).getD (i / 8 + 1) 0) := by
    rw [List.getElem?_eq_getElem (by simp; omega)]; simp [List.getD, List.getElem?_eq_getElem (show i / 8 < r.length by omega)]
  have hxb := hb _ (List.mem_of_getElem? hg)
  obtain ⟨x, hx⟩ : ∃ x, x = (F :: r).getD (i / 8 + 1) 0 := ⟨_, rfl⟩
  rw [← hx] at hg hxb
  obtain ⟨p, hp, hpl, ep⟩ := shl8 (i % 8) (by omega)
  obtain ⟨r', h1, h2', h3, h4⟩ := turn_step hrb i x hg
  rw [← hp] at h1
  refine ⟨x, p, x.toNat ^^^ p, r', hx.symm, hxb.1, hxb.2, hpl, ep, xor_lt8 (by omega) hpl, xor_u8 x.toNat p x (p : Int) (by omega) hpl (by omega) rfl, h1, ?_, by omega, h4⟩
  intro z hz
  rcases List.mem_cons.1 hz with rfl | hz
  · exact hb z (by simp)
  · exact h2' z hz
set_option linter.unusedVariables false
set_option maxRecDepth 100000 in
set_option maxHeartbeats 2000000 in
theorem inside (a0k a0a a0e a0f : Int) (a0d : ByteArray) (i j : Nat) (s : ByteArray) (hg : good a0k a0a a0e a0f (nums a0d)) (hn : nums s = wtext a0k a0a a0e a0f (nums a0d)) (h3 : s.size = 3) (hij : i < j) (hj15 : j ≤ 15)
    (hk3 : (a0k == 3) = false) (hk11 : (a0k == 11) = false)
    (HW : Hid (∀ w : World, Calls Try.prog 6 #[pk a0k a0a a0e a0f a0d] w fun r w' => r = .returned (.tuple #[.string s, .int .i64 0]) ∧ Below w.heap.size w w'))
    (HL : Hid (∀ w : World, Calls Try.prog 7 #[] w fun r w' => r = .returned (.bool true) ∧ Below w.heap.size w w')) (w : World) :
    Calls Try.prog 3 #[pk a0k a0a a0e a0f a0d, .int .i64 (i : Int), .int .i64 (j : Int)] w fun e w' => e = .returned (.bool true) ∧ Below w.heap.size w w' := by
  have hlen := nums_length s
  rw [h3] at hlen
  have hsh : shp a0k = 1 ∨ shp a0k = 2 := by
    simp at hk3 hk11
    rcases shp_cases hg.1 with ⟨c, _⟩ | ⟨c, _⟩ | ⟨c, h⟩ | ⟨c, _⟩
    · exact .inl c
    · exact .inr c
    · omega
    · rw [hn, wtext_cons, wrest_bare c] at hlen; simp at hlen
  have hl0 : nums s = fb a0k :: wrest a0k a0a a0e a0f (nums a0d) := by rw [hn, wtext_cons]
  have hr2 := wrest_tlen (a := a0a) (e := a0e) (f := a0f) (d := nums a0d) hsh
  obtain ⟨x, p, y, r1, g1, xb0, xb1, hpl, ep, hyl, exr, hs1, hb1, hr1, ht1⟩ := turn_one hl0 (nums_byt s) hr2 i (by omega)
  obtain ⟨x', p', y', r2, g1', xb0', xb1', hpl', ep', hyl', exr', hs2, hb2, hr2', ht2⟩ := turn_one rfl hb1 hr1 j (by omega)
  rw [ht1, Nat.xor_assoc] at ht2
  have hE : rdE (fb a0k :: r2) = 5 := by rw [rdE_fb hg.1]; exact two_bits hg hsh (byt_tail hb2) hr2' i j hij (by omega) ht2
  rw [← hs1] at hs2 g1'
  rw [← hs2] at hE hb2
  obtain ⟨k', a', e', f', d', c', HR, hc', hgot⟩ := read_any (strOfNums (((nums s).set (i / 8 + 1) (y : Int)).set (j / 8 + 1) (y' : Int))) (by rw [str_size, List.length_set, List.length_set, nums_length]; unfold maxLen; omega)
  rw [nums_str _ hb2, hE] at hc'
  subst hc'
  replace HR : Hid _ := HR
  have P1 : Hid _ := pk_alloc w a0k a0a a0e a0f a0d
  clear hgot hE hb2 hs2 hs1 ht1 ht2 hr2' hr1 hb1 hl0 hr2 hsh hlen hg hn
  go_enter Try.func3, Try.ntmps3
  go_wp2_with fail
  refine (HW.out _).mono ?_
  rintro r u1 ⟨rfl, hb1⟩
  have HB : Hid (Below w.heap.size w u1) := bsq (balloc w _) hb1
  have Q1 : Hid _ := P1.out.below hb1
  clear hb1 P1
  go_wp2_with fail
  refine (HL.out _).mono ?_
  rintro r u ⟨rfl, hb2⟩
  have HB2 : Hid (Below w.heap.size w u) := bsq HB.out hb2
  obtain ⟨z0, z1, z2, z3, z4, z5⟩ := Q1.out.below hb2
  clear hb2 HB Q1
  have hcv := run_bytes_of_string (P := Try.prog) u 9 28 5 s Try.underlying9 Try.underlying28 Try.underlying5
  have hby := byts_of u s (grownCap u s.size 0 5)
  obtain ⟨cap, hcap⟩ : ∃ cap, grownCap u s.size 0 5 = cap := ⟨_, rfl⟩
  rw [hcap] at hcv hby
  have hbel : Below u.heap.size u (u.drew.alloc (.cells (bytesRow s cap) 5 ((bytesRow s cap).size, (bytesRow s cap).size + 1))) := (Below.refl _ _).drew.alloc (Nat.le_refl _) _
  obtain ⟨u3, hu3⟩ : ∃ u3 : World, u.drew.alloc (.cells (bytesRow s cap) 5 ((bytesRow s cap).size, (bytesRow s cap).size + 1)) = u3 := ⟨_, rfl⟩
  rw [hu3] at hcv hby hbel
  rw [h3] at hcv hby
  have hce : u3.cell? ⟨u.heap.size, 1 + i / 8, none⟩ = some (.int .u8 x) := by rw [Nat.add_comm 1, ← g1]; exact hby.cell (i / 8 + 1) (by omega)
  have hfr : u3.frozen? ⟨u.heap.size, 1 + i / 8, none⟩ = false := by rw [Nat.add_comm 1]; exact hby.free (i / 8 + 1) (by omega)
  have HBY : Hid (Byts u3 u.heap.size 3 (nums s)) := hby
  have HB3 : Hid (Below w.heap.size w u3) := bsq HB2.out hbel
  have HS : Hid (w.heap.size ≤ u.heap.size) := HB2.out.size
  clear hcap hu3 hby hbel HB2
  go_wp2_with fail
  go_region
  have HY4 : Hid _ := (HBY.out.set (i / 8 + 1) (by omega) (y : Int)).drew
  have HB4 : Hid _ := (HB3.out.setCell (p := ⟨u.heap.size, 1 + i / 8, none⟩) HS.out (.int .u8 (y : Int))).drew
  obtain ⟨u4, hu4⟩ : ∃ u4 : World, (u3.setCell ⟨u.heap.size, 1 + i / 8, none⟩ (.int .u8 (y : Int))).drew = u4 := ⟨_, rfl⟩
  have HY5 : Hid (Byts u4 u.heap.size 3 ((nums s).set (i / 8 + 1) (y : Int))) := by rw [← hu4, Nat.add_comm 1]; exact HY4.out
  have HB5 : Hid (Below w.heap.size w u4) := by rw [← hu4]; exact HB4.out
  rw [hu4]
  clear hu4 HB4 HBY HB3 HY4 hcv hce hfr exr ep g1 xb0 xb1 hpl hyl
  have hce : u4.cell? ⟨u.heap.size, 1 + j / 8, none⟩ = some (.int .u8 x') := by rw [Nat.add_comm 1, ← g1']; exact HY5.out.cell (j / 8 + 1) (by omega)
  have hfr : u4.frozen? ⟨u.heap.size, 1 + j / 8, none⟩ = false := by rw [Nat.add_comm 1]; exact HY5.out.free (j / 8 + 1) (by omega)
  go_wp2_with fail
  go_region
  have HY6 : Hid _ := (HY5.out.set (j / 8 + 1) (by omega) (y' : Int)).drew
  have HB6 : Hid _ := (HB5.out.setCell (p := ⟨u.heap.size, 1 + j / 8, none⟩) HS.out (.int .u8 (y' : Int))).drew
  obtain ⟨u5, hu5⟩ : ∃ u5 : World, (u4.setCell ⟨u.heap.size, 1 + j / 8, none⟩ (.int .u8 (y' : Int))).drew = u5 := ⟨_, rfl⟩
  have HY7 : Byts u5 u.heap.size 3 (((nums s).set (i / 8 + 1) (y : Int)).set (j / 8 + 1) (y' : Int)) := by rw [← hu5, Nat.add_comm 1]; exact HY6.out
  have HB7 : Hid (Below w.heap.size w u5) := by rw [← hu5]; exact HB6.out
  rw [hu5]
  have hcv2 := HY7.conv (c := cap)
  clear hu5 HB6 HB5 HY5 HY6 HY7 hce hfr exr' ep' g1' xb0' xb1' hpl' hyl' HS z0 z1 z2 z3 z4 z5
  go_wp2_with fail
  refine (HR.out _).mono ?_
  rintro r u6 ⟨rfl, hb6⟩
  have HB8 : Hid (Below w.heap.size w u6) := bsq HB7.out hb6
  clear hb6 HB7 hcv2
  go_wp2
  go_ret
  exact ⟨rfl, HB8.out⟩
set_option maxHeartbeats 2000000 in
theorem outside (k a e f c : Int) (d : ByteArray) (i j : Int) (s : ByteArray) (hlow : -9223372036854775808 ≤ i ∧ i ≤ 9223372036854775807) (hlow2 : -9223372036854775808 ≤ j ∧ j ≤ 9223372036854775807) (hs : s.size ≤ maxLen)
    (hd : (c != 0) = true ∨ ((c != 0) = false ∧ (((s.size : Int) != 3) = true ∨ (((s.size : Int) != 3) = false ∧ (i < 0 ∨ (0 ≤ i ∧ (j ≤ i ∨ (i < j ∧ 15 < j))))))))
    (HW : Hid (∀ w : World, Calls Try.prog 6 #[pk k a e f d] w fun r w' => r = .returned (.tuple #[.string s, .int .i64 c]) ∧ Below w.heap.size w w'))
    (HL : Hid (∀ w : World, Calls Try.prog 7 #[] w fun r w' => r = .returned (.bool true) ∧ Below w.heap.size w w')) (w : World) :
    Calls Try.prog 3 #[pk k a e f d, .int .i64 i, .int .i64 j] w fun e w' => e = .returned (.bool true) ∧ Below w.heap.size w w' := by
  rcases hd with z | ⟨z, h | ⟨h, hi | ⟨hi, hj | ⟨hj, hk⟩⟩⟩⟩
  all_goals go_enter Try.func3, Try.ntmps3
  all_goals go_wp2_with fail
  all_goals refine (HW.out _).mono ?_
  all_goals rintro r u1 ⟨rfl, hb1⟩
  all_goals have HB : Hid (Below w.heap.size w u1) := bsq (balloc w _) hb1
  all_goals clear hb1
  all_goals go_wp2_with fail
  all_goals refine (HL.out _).mono ?_
  all_goals rintro r u ⟨rfl, hb2⟩
  all_goals have HB2 : Hid (Below w.heap.size w u) := bsq HB.out hb2
  all_goals clear hb2 HB
  all_goals go_wp2_with fail
  all_goals refine (HL.out _).mono ?_
  all_goals rintro r u5 ⟨rfl, hb2⟩
  all_goals have HB3 : Hid (Below w.heap.size w u5) := bsq HB2.out hb2
  all_goals clear hb2 HB2
  all_goals go_wp2
  all_goals go_ret
  all_goals exact ⟨rfl, HB3.out⟩
set_option maxHeartbeats 2000000 in
theorem carried (k a e f : Int) (d : ByteArray) (i j : Nat) (s : ByteArray) (h3 : s.size = 3) (hij : i < j) (hj : j ≤ 15) (hk : (k == 3) = true ∨ ((k == 3) = false ∧ (k == 11) = true))
    (HW : Hid (∀ w : World, Calls Try.prog 6 #[pk k a e f d] w fun r w' => r = .returned (.tuple #[.string s, .int .i64 0]) ∧ Below w.heap.size w w'))
    (HL : Hid (∀ w : World, Calls Try.prog 7 #[] w fun r w' => r = .returned (.bool true) ∧ Below w.heap.size w w')) (w : World) :
    Calls Try.prog 3 #[pk k a e f d, .int .i64 (i : Int), .int .i64 (j : Int)] w fun e w' => e = .returned (.bool true) ∧ Below w.heap.size w w' := by
  have P1 : Hid _ := pk_alloc w k a e f d
  rcases hk with hk | ⟨hk, hk2⟩
  all_goals go_enter Try.func3, Try.ntmps3
  all_goals go_wp2_with fail
  all_goals refine (HW.out _).mono ?_
  all_goals rintro r u1 ⟨rfl, hb1⟩
  all_goals have HB : Hid (Below w.heap.size w u1) := bsq (balloc w _) hb1
  all_goals have Q1 : Hid _ := P1.out.below hb1
  all_goals clear hb1 P1
  all_goals go_wp2_with fail
  all_goals refine (HL.out _).mono ?_
  all_goals rintro r u ⟨rfl, hb2⟩
  all_goals have HB2 : Hid (Below w.heap.size w u) := bsq HB.out hb2
  all_goals obtain ⟨z0, z1, z2, z3, z4, z5⟩ := Q1.out.below hb2
  all_goals clear hb2 HB Q1
  all_goals go_wp2
  all_goals go_ret
  all_goals exact ⟨rfl, HB2.out⟩
theorem wtext_len {k a e f : Int} {d : List Int} (h : good k a e f d) : (wtext k a e f d).length ≤ 67 := by
  unfold wtext
  have := h.2.2.2
  split
  · simp only [List.length_cons, List.length_append, two_len]; omega
  · split <;> simp [sealw, two]
theorem walk (a0k a0a a0e a0f : Int) (a0d : ByteArray) (a1 a2 : Int)
    (_w0k : (Lit.int .i64 a0k).wf = true) (_w0a : (Lit.int .i64 a0a).wf = true) (_w0e : (Lit.int .i64 a0e).wf = true) (_w0f : (Lit.int .i64 a0f).wf = true) (_w0d : a0d.size ≤ maxLen) (w1 : (Lit.int .i64 a1).wf = true) (w2 : (Lit.int .i64 a2).wf = true) (w : World) :
    Calls Try.prog 3 #[pk a0k a0a a0e a0f a0d, .int .i64 a1, .int .i64 a2] w fun e w' => e = .returned (.bool true) ∧ Below w.heap.size w w' := by
  have b1 := bounds_i64 w1
  have b2 := bounds_i64 w2
  obtain ⟨c, s, hc, h1, h2, HC, HW⟩ := write_any a0k a0a a0e a0f a0d
  by_cases z : c = 0
  · have hg := (code_zero hc).1 z
    have hn : nums s = wtext a0k a0a a0e a0f (nums a0d) := by rw [h1 z, nums_str _ (wtext_byt hg.1 (nums_byt _))]
    have hsz : s.size ≤ 67 := by rw [← nums_length, hn]; exact wtext_len hg
    have hmx : s.size ≤ maxLen := by unfold maxLen; omega
    have z' : (c != 0) = false := by simp [z]
    by_cases h3 : s.size = 3
    · have h3' : ((s.size : Int) != 3) = false := by simp [h3]
      by_cases hr : 0 ≤ a1 ∧ a1 < a2 ∧ a2 ≤ 15
      · obtain ⟨i, rfl⟩ := Int.eq_ofNat_of_zero_le hr.1
        obtain ⟨j, rfl⟩ := Int.eq_ofNat_of_zero_le (show 0 ≤ a2 by omega)
        subst z
        by_cases k3 : a0k = 3
        · exact carried a0k a0a a0e a0f a0d i j s h3 (by omega) (by omega) (.inl (by simp [k3])) HW lives_any w
        by_cases k11 : a0k = 11
        · exact carried a0k a0a a0e a0f a0d i j s h3 (by omega) (by omega) (.inr ⟨by simp [k3], by simp [k11]⟩) HW lives_any w
        exact inside a0k a0a a0e a0f a0d i j s hg hn h3 (by omega) (by omega) (by simp [k3]) (by simp [k11]) HW lives_any w
      · exact outside a0k a0a a0e a0f c a0d a1 a2 s b1 b2 hmx (.inr ⟨z', .inr ⟨h3', by omega⟩⟩) HW lives_any w
    · exact outside a0k a0a a0e a0f c a0d a1 a2 s b1 b2 hmx (.inr ⟨z', .inl (by simp; omega)⟩) HW lives_any w
  · have hs := h2 z
    exact outside a0k a0a a0e a0f c a0d a1 a2 s b1 b2 (by rw [hs]; decide) (.inl (by simp [z])) HW lives_any w
end Go.Proofs.Ytepifjimfcnggab.packetTwo
