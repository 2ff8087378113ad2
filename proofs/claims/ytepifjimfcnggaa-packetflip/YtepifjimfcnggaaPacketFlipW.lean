/- PacketFlip: the walk. -/
import Derived.Test.YtepifjimfcnggaaPackL
import Derived.Test.YtepifjimfcnggaaPackT
import Derived.Test.YtepifjimfcnggaaByts
import Derived.Deep.RegionHeld3
namespace Go.Proofs.Ytepifjimfcnggaa.packetFlip
open Go.RowKit Go.PlainAid Go.Proofs.Ytepifjimfcnggaa.lane Go.Proofs.Ytepifjimfcnggaa.crc Go.Proofs.Ytepifjimfcnggaa.pack

theorem shl8_all : ∀ i : Fin 8, (2 ^ i.val < 256) ∧ (2 : Int) ^ i.val % 256 = ((2 ^ i.val : Nat) : Int) := by decide +kernel
theorem shl8 (i : Nat) (hi : i < 8) : ∃ p : Nat, p = 2 ^ i ∧ p < 256 ∧ (2 : Int) ^ i % 256 = (p : Int) :=
  ⟨_, rfl, (shl8_all ⟨i, hi⟩).1, (shl8_all ⟨i, hi⟩).2⟩
theorem wtext_len {k a e f : Int} {d : List Int} (h : good k a e f d) : (wtext k a e f d).length ≤ 67 := by
  unfold wtext
  have := h.2.2.2
  split
  · simp only [List.length_cons, List.length_append, two_len]; omega
  · split <;> simp [sealw, two]

set_option linter.unusedVariables false
set_option maxRecDepth 100000 in
set_option maxHeartbeats 2000000 in
theorem walk (a0k a0a a0e a0f : Int) (a0d : ByteArray) (a1 : Int)
    (w0k : (Lit.int .i64 a0k).wf = true) (w0a : (Lit.int .i64 a0a).wf = true) (w0e : (Lit.int .i64 a0e).wf = true) (w0f : (Lit.int .i64 a0f).wf = true) (w0d : a0d.size ≤ maxLen) (w1 : (Lit.int .i64 a1).wf = true) (w : World) :
    Calls Try.prog 8 #[pk a0k a0a a0e a0f a0d, .int .i64 a1] w fun e w' => e = .returned (.bool true) ∧ Below w.heap.size w w' := by
  have b1 := bounds_i64 w1
  clear w0k w0a w0e w0f w0d w1
  obtain ⟨c, s, hc, h1, h2, HC, HW⟩ := write_any a0k a0a a0e a0f a0d
  replace HW : Hid _ := HW
  clear HC
  have HL : Hid (∀ w : World, Calls Try.prog 15 #[] w fun r w' => r = .returned (.bool true) ∧ Below w.heap.size w w') := lives_any
  by_cases z : c = 0
  · have hg := (code_zero hc).1 z
    have hn : nums s = wtext a0k a0a a0e a0f (nums a0d) := by rw [h1 z, nums_str _ (wtext_byt hg.1 (nums_byt _))]
    have hsz : s.size ≤ 67 := by rw [← nums_length, hn]; exact wtext_len hg
    by_cases hr : 0 ≤ a1 ∧ a1 < 8 * (s.size : Int)
    · obtain ⟨a, rfl⟩ := Int.eq_ofNat_of_zero_le hr.1
      have hj : a / 8 < s.size := by omega
      have hxg : (nums s)[a / 8]? = some ((nums s).getD (a / 8) 0) := by
        have := nums_length s
        rw [List.getElem?_eq_getElem (by omega)]; simp [List.getD, List.getElem?_eq_getElem (show a / 8 < (nums s).length by omega)]
      have hxb := nums_byt s _ (List.mem_of_getElem? hxg)
      obtain ⟨x, hxe⟩ : ∃ x, x = (nums s).getD (a / 8) 0 := ⟨_, rfl⟩
      rw [← hxe] at hxg hxb
      obtain ⟨p, hp, hpl, ep⟩ := shl8 (a % 8) (by omega)
      have hyl := xor_lt8 (show x.toNat < 256 by omega) hpl
      have exr := xor_u8 x.toNat p x (p : Int) (by omega) hpl (by omega) rfl
      have hto := flip_told hg (nums_byt _) a x (by rw [← hn]; exact hxg)
      rw [← hn, ← hp] at hto
      obtain ⟨y, hye⟩ : ∃ y, y = x.toNat ^^^ p := ⟨_, rfl⟩
      rw [← hye] at exr hyl hto
      have hbt : Byt ((nums s).set (a / 8) (y : Int)) := byt_set (nums_byt s) _ y hyl
      obtain ⟨k', a', e', f', d', c', HR, hc', hgot⟩ := read_any (strOfNums ((nums s).set (a / 8) (y : Int))) (by rw [str_size, List.length_set, nums_length]; unfold maxLen; omega)
      rw [nums_str _ hbt] at hc'
      rw [← hc'] at hto
      have hfin : (c' == 4) = true ∨ ((c' == 4) = false ∧ (decide ((8 : Int) ≤ (a : Int)) = true) ∧ (c' == 5) = true) := by
        rcases hto with h | ⟨h8, h⟩
        · left; simp [h]
        · right; simp [h]; omega
      replace HR : Hid _ := HR
      subst z
      clear hgot hto hc' hc h1 h2 hg hn hp hxg hye hr hbt
      go_enter Try.func8, Try.ntmps8
      go_wp2_with fail
      refine (HW.out _).mono ?_
      rintro r u1 ⟨rfl, hb1⟩
      have HB : Hid (Below w.heap.size w u1) := bsq (balloc w _) hb1
      clear hb1
      go_wp2_with fail
      refine (HL.out _).mono ?_
      rintro r u ⟨rfl, hb2⟩
      have HB2 : Hid (Below w.heap.size w u) := bsq HB.out hb2
      clear hb2 HB
      have hcv := run_bytes_of_string (P := Try.prog) u 9 35 5 s Try.underlying9 Try.underlying35 Try.underlying5
      have hby := byts_of u s (grownCap u s.size 0 5)
      obtain ⟨cap, hcap⟩ : ∃ cap, grownCap u s.size 0 5 = cap := ⟨_, rfl⟩
      rw [hcap] at hcv hby
      have hbel : Below u.heap.size u (u.drew.alloc (.cells (bytesRow s cap) 5 ((bytesRow s cap).size, (bytesRow s cap).size + 1))) := (Below.refl _ _).drew.alloc (Nat.le_refl _) _
      obtain ⟨u3, hu3⟩ : ∃ u3 : World, u.drew.alloc (.cells (bytesRow s cap) 5 ((bytesRow s cap).size, (bytesRow s cap).size + 1)) = u3 := ⟨_, rfl⟩
      rw [hu3] at hcv hby hbel
      have hce := hby.cell (a / 8) hj
      rw [← hxe] at hce
      have hfr := hby.free (a / 8) hj
      have HBY : Hid (Byts u3 u.heap.size s.size (nums s)) := hby
      have HB3 : Hid (Below w.heap.size w u3) := bsq HB2.out hbel
      have HS : Hid (w.heap.size ≤ u.heap.size) := HB2.out.size
      clear hcap hu3 hby hbel HB2 hxe
      go_wp2_with fail
      go_region
      have hcv2 := (HBY.out.set (a / 8) hj (y : Int)).drew.conv (c := cap)
      have HB4 : Hid _ := (HB3.out.setCell (p := ⟨u.heap.size, a / 8, none⟩) HS.out (.int .u8 (y : Int))).drew
      obtain ⟨u4, hu4⟩ : ∃ u4 : World, (u3.setCell ⟨u.heap.size, a / 8, none⟩ (.int .u8 (y : Int))).drew = u4 := ⟨_, rfl⟩
      rw [hu4] at hcv2
      have HB5 : Hid (Below w.heap.size w u4) := by rw [← hu4]; exact HB4.out
      rw [hu4]
      clear hu4 HB4 HBY HB3 HS hcv hce hfr exr ep
      go_wp2_with fail
      refine (HR.out _).mono ?_
      rintro r u5 ⟨rfl, hb5⟩
      have HB6 : Hid (Below w.heap.size w u5) := bsq HB5.out hb5
      clear hb5 HB5 hcv2
      rcases hfin with h4 | ⟨h4, h8, h5⟩
      all_goals go_wp2
      all_goals go_ret
      all_goals exact ⟨rfl, HB6.out⟩
    · have hd : a1 < 0 ∨ (0 ≤ a1 ∧ 8 * (s.size : Int) ≤ a1) := by omega
      subst z
      clear hr hc h1 h2 hg hn
      rcases hd with hd | ⟨hd, hd2⟩
      all_goals go_enter Try.func8, Try.ntmps8
      all_goals go_wp2_with fail
      all_goals refine (HW.out _).mono ?_
      all_goals rintro r u1 ⟨rfl, hb1⟩
      all_goals have HB : Hid (Below w.heap.size w u1) := bsq (balloc w _) hb1
      all_goals clear hb1
      all_goals go_wp2_with fail
      all_goals refine (HL.out _).mono ?_
      all_goals rintro r u ⟨rfl, hb2⟩
      all_goals have HB2 : Hid (Below w.heap.size w u) := bsq HB.out hb2
      all_goals clear hb2 HB
      all_goals go_wp2_with fail
      all_goals refine (HL.out _).mono ?_
      all_goals rintro r u5 ⟨rfl, hb2⟩
      all_goals have HB3 : Hid (Below w.heap.size w u5) := bsq HB2.out hb2
      all_goals clear hb2 HB2
      all_goals go_wp2
      all_goals go_ret
      all_goals exact ⟨rfl, HB3.out⟩
  · have z' : (c != 0) = true := by simp [z]
    clear hc h1 h2 z
    go_enter Try.func8, Try.ntmps8
    go_wp2_with fail
    refine (HW.out _).mono ?_
    rintro r u1 ⟨rfl, hb1⟩
    have HB : Hid (Below w.heap.size w u1) := bsq (balloc w _) hb1
    clear hb1
    go_wp2_with fail
    refine (HL.out _).mono ?_
    rintro r u ⟨rfl, hb2⟩
    have HB2 : Hid (Below w.heap.size w u) := bsq HB.out hb2
    clear hb2 HB
    go_wp2_with fail
    refine (HL.out _).mono ?_
    rintro r u5 ⟨rfl, hb2⟩
    have HB3 : Hid (Below w.heap.size w u5) := bsq HB2.out hb2
    clear hb2 HB2
    go_wp2
    go_ret
    exact ⟨rfl, HB3.out⟩
end Go.Proofs.Ytepifjimfcnggaa.packetFlip
