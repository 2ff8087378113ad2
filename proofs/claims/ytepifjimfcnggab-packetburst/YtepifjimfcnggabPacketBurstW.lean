/- PacketBurst: the walk. -/
import Derived.Test.YtepifjimfcnggabPackL
import Derived.Test.YtepifjimfcnggabPackT
import Derived.Test.YtepifjimfcnggabByts
import Derived.Deep.RegionHeld3
namespace Go.Proofs.Ytepifjimfcnggab.packetBurst
open Go.RowKit Go.PlainAid Go.Proofs.Ytepifjimfcnggab.lane Go.Proofs.Ytepifjimfcnggab.crc Go.Proofs.Ytepifjimfcnggab.pack

theorem shl8_all : ∀ i : Fin 8, (2 ^ i.val < 256) ∧ (2 : Int) ^ i.val % 256 = ((2 ^ i.val : Nat) : Int) := by decide +kernel
theorem shl8 (i : Nat) (hi : i < 8) : ∃ p : Nat, p = 2 ^ i ∧ p < 256 ∧ (2 : Int) ^ i % 256 = (p : Int) :=
  ⟨_, rfl, (shl8_all ⟨i, hi⟩).1, (shl8_all ⟨i, hi⟩).2⟩
theorem wtext_len {k a e f : Int} {d : List Int} (h : good k a e f d) : (wtext k a e f d).length ≤ 67 := by
  unfold wtext
  have := h.2.2.2
  split
  · simp only [List.length_cons, List.length_append, two_len]; omega
  · split <;> simp [sealw, two]
/-- the row under way: its first byte stays, the rest is turned by the bits that have come -/
def Mid (F : Int) (r : List Int) (a b k : Nat) (acc : List Int) : Prop := ∃ r', acc = F :: r' ∧ Byt r' ∧ r'.length = r.length ∧ txt r' = txt r ^^^ 2 ^ a * (b % 2 ^ k)
theorem mid_set {F : Int} {r : List Int} {a b k : Nat} {acc : List Int} (h : Mid F r a b k acc) (x : Int) (y : Nat) (hx : acc[(a + 8 + k) / 8]? = some x) (hy : y = x.toNat ^^^ 2 ^ ((a + 8 + k) % 8)) (hbit : b / 2 ^ k % 2 = 1) :
    Mid F r a b (k + 1) (acc.set ((a + 8 + k) / 8) (y : Int)) := by
  obtain ⟨r', rfl, hb, hl, ht⟩ := h
  rw [show (a + 8 + k) / 8 = (a + k) / 8 + 1 by omega, List.getElem?_cons_succ] at hx
  rw [show (a + 8 + k) / 8 = (a + k) / 8 + 1 by omega, List.set_cons_succ]
  rw [show (a + 8 + k) % 8 = (a + k) % 8 by omega] at hy
  have hxb := hb x (List.mem_of_getElem? hx)
  refine ⟨_, rfl, byt_set hb _ y (by rw [hy]; exact xor_lt8 (by omega) (pow8 ⟨(a + k) % 8, by omega⟩)), by rw [List.length_set]; exact hl, ?_⟩
  have hlow := low_step b k
  rw [if_pos hbit] at hlow
  rw [hy, txt_set r' _ _ x hb hx (by omega), ht, hlow, mul_xor, Nat.xor_assoc, ← Nat.pow_add, show 8 * ((a + k) / 8) + (a + k) % 8 = a + k by omega]
theorem mid_not {F : Int} {r : List Int} {a b k : Nat} {acc : List Int} (h : Mid F r a b k acc) (hbit : ¬ b / 2 ^ k % 2 = 1) : Mid F r a b (k + 1) acc := by
  obtain ⟨r', rfl, hb, hl, ht⟩ := h
  have hlow := low_step b k
  rw [if_neg hbit] at hlow
  exact ⟨r', rfl, hb, hl, by rw [hlow]; exact ht⟩
theorem mid_end {k a e f : Int} {d : List Int} (hg : good k a e f d) (hd : Byt d) (c : shp k = 3) {at_ b : Nat} {acc : List Int} (hat : at_ ≤ 8 * (wrest k a e f d).length) (hb : b < 65536) (h0 : b ≠ 0) (h : Mid (fb k) (wrest k a e f d) at_ b 16 acc) :
    Byt acc ∧ rdE acc = 5 := by
  obtain ⟨r', rfl, hbt, hl, ht⟩ := h
  have hr := shp_range hg.1
  rw [Nat.mod_eq_of_lt (by exact hb)] at ht
  constructor
  · intro x hx
    rcases List.mem_cons.1 hx with rfl | hx
    · exact fb_byte ⟨by omega, by omega⟩
    · exact hbt x hx
  · rw [rdE_fb hg.1]
    exact sum_told hg hd c hbt hl (burst _ _ (wrest_byt hg.1 hd) hbt hl at_ b hat hb h0 ht)
set_option linter.unusedVariables false
set_option maxRecDepth 100000 in
set_option maxHeartbeats 2000000 in
theorem inside0 (a0k a0a a0e a0f : Int) (a0d : ByteArray) (a b : Nat) (s : ByteArray) (hg : good a0k a0a a0e a0f (nums a0d)) (hn : nums s = wtext a0k a0a a0e a0f (nums a0d)) (hsz : s.size ≤ 67) (ha : a + 8 < 8 * s.size) (hb : b < 65536) (hb0 : b ≠ 0)
    (hk : (a0k != 3) = false)
    (HW : Hid (∀ w : World, Calls Try.prog 6 #[pk a0k a0a a0e a0f a0d] w fun r w' => r = .returned (.tuple #[.string s, .int .i64 0]) ∧ Below w.heap.size w w'))
    (HL : Hid (∀ w : World, Calls Try.prog 7 #[] w fun r w' => r = .returned (.bool true) ∧ Below w.heap.size w w')) (w : World) :
    Calls Try.prog 5 #[pk a0k a0a a0e a0f a0d, .int .i64 ((a + 8 : Nat) : Int), .int .u16 (b : Int)] w fun e w' => e = .returned (.bool true) ∧ Below w.heap.size w w' := by
  have hd0 : ((b : Int) == 0) = false := by simp; omega
  have hsh : shp a0k = 3 := by
    have : a0k = 3 ∨ a0k = 11 := by simp at hk; omega
    rcases this with rfl | rfl <;> decide
  have hl0 : nums s = fb a0k :: wrest a0k a0a a0e a0f (nums a0d) := by rw [hn, wtext_cons]
  have hrl : (wrest a0k a0a a0e a0f (nums a0d)).length + 1 = s.size := by rw [← nums_length, hl0, List.length_cons]
  have HM0 : Hid (Mid (fb a0k) (wrest a0k a0a a0e a0f (nums a0d)) a b 0 (nums s)) := ⟨_, hl0, wrest_byt hg.1 (nums_byt _), rfl, by simp [Nat.mod_one]⟩
  have HEND : Hid (∀ acc, Mid (fb a0k) (wrest a0k a0a a0e a0f (nums a0d)) a b 16 acc → Byt acc ∧ rdE acc = 5) := fun acc h => mid_end hg (nums_byt _) hsh (by omega) hb hb0 h
  have HBT : Hid (∀ k acc, Mid (fb a0k) (wrest a0k a0a a0e a0f (nums a0d)) a b k acc → Byt acc) := by
    intro k acc ⟨r', h1, h2, _, _⟩
    rw [h1]
    have hr := shp_range hg.1
    intro x hx
    rcases List.mem_cons.1 hx with rfl | hx
    · exact fb_byte ⟨by omega, by omega⟩
    · exact h2 x hx
  generalize wrest a0k a0a a0e a0f (nums a0d) = R at *
  generalize fb a0k = F at *
  have P1 : Hid _ := pk_alloc w a0k a0a a0e a0f a0d
  clear hg hn hsh hl0 hrl
  go_enter Try.func5, Try.ntmps5
  go_wp2_with fail
  refine (HW.out _).mono ?_
  rintro r u1 ⟨rfl, hb1⟩
  have HB : Hid (Below w.heap.size w u1) := bsq (balloc w _) hb1
  have Q1 : Hid _ := P1.out.below hb1
  clear hb1 P1
  go_wp2_with fail
  refine (HL.out _).mono ?_
  rintro r u ⟨rfl, hb2⟩
  have HB2 : Hid (Below w.heap.size w u) := bsq HB.out hb2
  obtain ⟨z0, z1, z2, z3, z4, z5⟩ := Q1.out.below hb2
  clear hb2 HB Q1
  have hcv := run_bytes_of_string (P := Try.prog) u 9 28 5 s Try.underlying9 Try.underlying28 Try.underlying5
  have hby := byts_of u s (grownCap u s.size 0 5)
  obtain ⟨cap, hcap⟩ : ∃ cap, grownCap u s.size 0 5 = cap := ⟨_, rfl⟩
  rw [hcap] at hcv hby
  have hbel : Below u.heap.size u (u.drew.alloc (.cells (bytesRow s cap) 5 ((bytesRow s cap).size, (bytesRow s cap).size + 1))) := (Below.refl _ _).drew.alloc (Nat.le_refl _) _
  obtain ⟨u3, hu3⟩ : ∃ u3 : World, u.drew.alloc (.cells (bytesRow s cap) 5 ((bytesRow s cap).size, (bytesRow s cap).size + 1)) = u3 := ⟨_, rfl⟩
  rw [hu3] at hcv hby hbel
  have HBY : Hid (Byts u3 u.heap.size s.size (nums s)) := hby
  have HB3 : Hid (Below w.heap.size w u3) := bsq HB2.out hbel
  have HS : Hid (w.heap.size ≤ u.heap.size) := HB2.out.size
  clear hcap hu3 hby hbel HB2
  go_wp2_with fail
  go_loopw [50] (fun i wr => ∃ (k : Nat) (acc : List Int), k ≤ 16 ∧ i = .int .i64 (k : Int) ∧ Byts wr u.heap.size s.size acc ∧ Below w.heap.size w wr ∧ Hid (Mid F R a b k acc))
    (fun i _ => 16 - (intOf i).toNat)
  case atStart => exact ⟨0, nums s, by omega, rfl, HBY.out, HB3.out, HM0.out⟩
  case round =>
    clear HBY HB3 hcv HM0 z1 z2 z3 z4 z5
    obtain ⟨k, acc, hk, rfl, hby, hbel, HR⟩ := hrel
    by_cases hlt : k < 16
    · have hbk : b / 2 ^ k < 65536 := Nat.lt_of_le_of_lt (Nat.div_le_self _ _) hb
      have eb := and1_u16 (b / 2 ^ k) hbk
      rw [show ((b / 2 ^ k : Nat) : Int) = (b : Int) / 2 ^ k by simp] at eb
      by_cases hbit : b / 2 ^ k % 2 = 1
      · have hbit' : ((b : Int) / 2 ^ k % 2 == 1) = true := by
          have : (((b / 2 ^ k % 2 : Nat) : Int) == 1) = true := by rw [hbit]; rfl
          simpa using this
        by_cases hin : a + 8 + k < 8 * s.size
        · have hj : (a + 8 + k) / 8 < s.size := by omega
          have hce := hby.cell ((a + 8 + k) / 8) hj
          have hfr := hby.free ((a + 8 + k) / 8) hj
          have hx := HBT.out k acc HR.out
          have hxg : acc[(a + 8 + k) / 8]? = some (acc.getD ((a + 8 + k) / 8) 0) := by
            have := hby.len
            rw [List.getElem?_eq_getElem (by omega)]; simp [List.getD, List.getElem?_eq_getElem (show (a + 8 + k) / 8 < acc.length by omega)]
          have hxb := hx _ (List.mem_of_getElem? hxg)
          obtain ⟨p, hp, hpl, ep⟩ := shl8 ((a + 8 + k) % 8) (by omega)
          obtain ⟨x, hxe⟩ : ∃ x, x = acc.getD ((a + 8 + k) / 8) 0 := ⟨_, rfl⟩
          rw [← hxe] at hce hxb hxg
          have exr := xor_u8 x.toNat p x (p : Int) (by omega) hpl (by omega) rfl
          have hyl := xor_lt8 (show x.toNat < 256 by omega) hpl
          obtain ⟨y, hye⟩ : ∃ y, y = x.toNat ^^^ p := ⟨_, rfl⟩
          rw [← hye] at exr hyl
          have HT : Hid (Mid F R a b (k + 1) (acc.set ((a + 8 + k) / 8) (y : Int))) := mid_set HR.out x y hxg (by rw [hye, hp]) hbit
          have HY : Hid (Byts wr u.heap.size s.size acc) := hby
          clear HR hx hxg hxe hye hp hbit hby
          go_wp2_with fail
          go_region
          go_wp2
          go_roundw
          case rel => exact ⟨k + 1, acc.set ((a + 8 + k) / 8) (y : Int), by omega, by go_num, (HY.out.set _ hj _).drew, (hbel.setCell HS.out _).drew, HT⟩
          case measure => simp [intOf]; omega
        · clear HR hbit
          go_wp2
          go_ret
          exact ⟨rfl, hbel⟩
      · have hbit' : ((b : Int) / 2 ^ k % 2 == 1) = false := by
          have hz : b / 2 ^ k % 2 = 0 := by omega
          have : (((b / 2 ^ k % 2 : Nat) : Int) == 1) = false := by rw [hz]; rfl
          simpa using this
        have HT : Hid (Mid F R a b (k + 1) acc) := mid_not HR.out hbit
        clear HR hbit
        go_wp2
        go_roundw
        case rel => exact ⟨k + 1, acc, by omega, by go_num, hby, hbel, HT⟩
        case measure => simp [intOf]; omega
    · obtain rfl : k = 16 := by omega
      have hl := hby.len
      obtain ⟨hba, hE⟩ := HEND.out acc HR.out
      obtain ⟨k', a', e', f', d', c', HRD, hc', hgot⟩ := read_any (strOfNums acc) (by rw [str_size, hl]; unfold maxLen; omega)
      rw [nums_str _ hba, hE] at hc'
      subst hc'
      replace HRD : Hid _ := HRD
      have hcv2 := hby.conv (c := cap)
      have HBL : Hid (Below w.heap.size w wr) := hbel
      clear hgot hE hba hl HR hby hbel HEND HBT
      go_wp2_with fail
      refine (HRD.out _).mono ?_
      rintro r u6 ⟨rfl, hb6⟩
      have HB8 : Hid (Below w.heap.size w u6) := bsq HBL.out hb6
      clear hb6 HBL hcv2
      go_wp2
      go_ret
      exact ⟨rfl, HB8.out⟩
set_option maxRecDepth 100000 in
set_option maxHeartbeats 2000000 in
theorem inside1 (a0k a0a a0e a0f : Int) (a0d : ByteArray) (a b : Nat) (s : ByteArray) (hg : good a0k a0a a0e a0f (nums a0d)) (hn : nums s = wtext a0k a0a a0e a0f (nums a0d)) (hsz : s.size ≤ 67) (ha : a + 8 < 8 * s.size) (hb : b < 65536) (hb0 : b ≠ 0)
    (hk : (a0k != 3) = true) (hk2 : (a0k != 11) = false)
    (HW : Hid (∀ w : World, Calls Try.prog 6 #[pk a0k a0a a0e a0f a0d] w fun r w' => r = .returned (.tuple #[.string s, .int .i64 0]) ∧ Below w.heap.size w w'))
    (HL : Hid (∀ w : World, Calls Try.prog 7 #[] w fun r w' => r = .returned (.bool true) ∧ Below w.heap.size w w')) (w : World) :
    Calls Try.prog 5 #[pk a0k a0a a0e a0f a0d, .int .i64 ((a + 8 : Nat) : Int), .int .u16 (b : Int)] w fun e w' => e = .returned (.bool true) ∧ Below w.heap.size w w' := by
  have hd0 : ((b : Int) == 0) = false := by simp; omega
  have hsh : shp a0k = 3 := by
    have : a0k = 3 ∨ a0k = 11 := by simp at hk2; omega
    rcases this with rfl | rfl <;> decide
  have hl0 : nums s = fb a0k :: wrest a0k a0a a0e a0f (nums a0d) := by rw [hn, wtext_cons]
  have hrl : (wrest a0k a0a a0e a0f (nums a0d)).length + 1 = s.size := by rw [← nums_length, hl0, List.length_cons]
  have HM0 : Hid (Mid (fb a0k) (wrest a0k a0a a0e a0f (nums a0d)) a b 0 (nums s)) := ⟨_, hl0, wrest_byt hg.1 (nums_byt _), rfl, by simp [Nat.mod_one]⟩
  have HEND : Hid (∀ acc, Mid (fb a0k) (wrest a0k a0a a0e a0f (nums a0d)) a b 16 acc → Byt acc ∧ rdE acc = 5) := fun acc h => mid_end hg (nums_byt _) hsh (by omega) hb hb0 h
  have HBT : Hid (∀ k acc, Mid (fb a0k) (wrest a0k a0a a0e a0f (nums a0d)) a b k acc → Byt acc) := by
    intro k acc ⟨r', h1, h2, _, _⟩
    rw [h1]
    have hr := shp_range hg.1
    intro x hx
    rcases List.mem_cons.1 hx with rfl | hx
    · exact fb_byte ⟨by omega, by omega⟩
    · exact h2 x hx
  generalize wrest a0k a0a a0e a0f (nums a0d) = R at *
  generalize fb a0k = F at *
  have P1 : Hid _ := pk_alloc w a0k a0a a0e a0f a0d
  clear hg hn hsh hl0 hrl
  go_enter Try.func5, Try.ntmps5
  go_wp2_with fail
  refine (HW.out _).mono ?_
  rintro r u1 ⟨rfl, hb1⟩
  have HB : Hid (Below w.heap.size w u1) := bsq (balloc w _) hb1
  have Q1 : Hid _ := P1.out.below hb1
  clear hb1 P1
  go_wp2_with fail
  refine (HL.out _).mono ?_
  rintro r u ⟨rfl, hb2⟩
  have HB2 : Hid (Below w.heap.size w u) := bsq HB.out hb2
  obtain ⟨z0, z1, z2, z3, z4, z5⟩ := Q1.out.below hb2
  clear hb2 HB Q1
  have hcv := run_bytes_of_string (P := Try.prog) u 9 28 5 s Try.underlying9 Try.underlying28 Try.underlying5
  have hby := byts_of u s (grownCap u s.size 0 5)
  obtain ⟨cap, hcap⟩ : ∃ cap, grownCap u s.size 0 5 = cap := ⟨_, rfl⟩
  rw [hcap] at hcv hby
  have hbel : Below u.heap.size u (u.drew.alloc (.cells (bytesRow s cap) 5 ((bytesRow s cap).size, (bytesRow s cap).size + 1))) := (Below.refl _ _).drew.alloc (Nat.le_refl _) _
  obtain ⟨u3, hu3⟩ : ∃ u3 : World, u.drew.alloc (.cells (bytesRow s cap) 5 ((bytesRow s cap).size, (bytesRow s cap).size + 1)) = u3 := ⟨_, rfl⟩
  rw [hu3] at hcv hby hbel
  have HBY : Hid (Byts u3 u.heap.size s.size (nums s)) := hby
  have HB3 : Hid (Below w.heap.size w u3) := bsq HB2.out hbel
  have HS : Hid (w.heap.size ≤ u.heap.size) := HB2.out.size
  clear hcap hu3 hby hbel HB2
  go_wp2_with fail
  go_loopw [50] (fun i wr => ∃ (k : Nat) (acc : List Int), k ≤ 16 ∧ i = .int .i64 (k : Int) ∧ Byts wr u.heap.size s.size acc ∧ Below w.heap.size w wr ∧ Hid (Mid F R a b k acc))
    (fun i _ => 16 - (intOf i).toNat)
  case atStart => exact ⟨0, nums s, by omega, rfl, HBY.out, HB3.out, HM0.out⟩
  case round =>
    clear HBY HB3 hcv HM0 z1 z2 z3 z4 z5
    obtain ⟨k, acc, hk, rfl, hby, hbel, HR⟩ := hrel
    by_cases hlt : k < 16
    · have hbk : b / 2 ^ k < 65536 := Nat.lt_of_le_of_lt (Nat.div_le_self _ _) hb
      have eb := and1_u16 (b / 2 ^ k) hbk
      rw [show ((b / 2 ^ k : Nat) : Int) = (b : Int) / 2 ^ k by simp] at eb
      by_cases hbit : b / 2 ^ k % 2 = 1
      · have hbit' : ((b : Int) / 2 ^ k % 2 == 1) = true := by
          have : (((b / 2 ^ k % 2 : Nat) : Int) == 1) = true := by rw [hbit]; rfl
          simpa using this
        by_cases hin : a + 8 + k < 8 * s.size
        · have hj : (a + 8 + k) / 8 < s.size := by omega
          have hce := hby.cell ((a + 8 + k) / 8) hj
          have hfr := hby.free ((a + 8 + k) / 8) hj
          have hx := HBT.out k acc HR.out
          have hxg : acc[(a + 8 + k) / 8]? = some (acc.getD ((a + 8 + k) / 8) 0) := by
            have := hby.len
            rw [List.getElem?_eq_getElem (by omega)]; simp [List.getD, List.getElem?_eq_getElem (show (a + 8 + k) / 8 < acc.length by omega)]
          have hxb := hx _ (List.mem_of_getElem? hxg)
          obtain ⟨p, hp, hpl, ep⟩ := shl8 ((a + 8 + k) % 8) (by omega)
          obtain ⟨x, hxe⟩ : ∃ x, x = acc.getD ((a + 8 + k) / 8) 0 := ⟨_, rfl⟩
          rw [← hxe] at hce hxb hxg
          have exr := xor_u8 x.toNat p x (p : Int) (by omega) hpl (by omega) rfl
          have hyl := xor_lt8 (show x.toNat < 256 by omega) hpl
          obtain ⟨y, hye⟩ : ∃ y, y = x.toNat ^^^ p := ⟨_, rfl⟩
          rw [← hye] at exr hyl
          have HT : Hid (Mid F R a b (k + 1) (acc.set ((a + 8 + k) / 8) (y : Int))) := mid_set HR.out x y hxg (by rw [hye, hp]) hbit
          have HY : Hid (Byts wr u.heap.size s.size acc) := hby
          clear HR hx hxg hxe hye hp hbit hby
          go_wp2_with fail
          go_region
          go_wp2
          go_roundw
          case rel => exact ⟨k + 1, acc.set ((a + 8 + k) / 8) (y : Int), by omega, by go_num, (HY.out.set _ hj _).drew, (hbel.setCell HS.out _).drew, HT⟩
          case measure => simp [intOf]; omega
        · clear HR hbit
          go_wp2
          go_ret
          exact ⟨rfl, hbel⟩
      · have hbit' : ((b : Int) / 2 ^ k % 2 == 1) = false := by
          have hz : b / 2 ^ k % 2 = 0 := by omega
          have : (((b / 2 ^ k % 2 : Nat) : Int) == 1) = false := by rw [hz]; rfl
          simpa using this
        have HT : Hid (Mid F R a b (k + 1) acc) := mid_not HR.out hbit
        clear HR hbit
        go_wp2
        go_roundw
        case rel => exact ⟨k + 1, acc, by omega, by go_num, hby, hbel, HT⟩
        case measure => simp [intOf]; omega
    · obtain rfl : k = 16 := by omega
      have hl := hby.len
      obtain ⟨hba, hE⟩ := HEND.out acc HR.out
      obtain ⟨k', a', e', f', d', c', HRD, hc', hgot⟩ := read_any (strOfNums acc) (by rw [str_size, hl]; unfold maxLen; omega)
      rw [nums_str _ hba, hE] at hc'
      subst hc'
      replace HRD : Hid _ := HRD
      have hcv2 := hby.conv (c := cap)
      have HBL : Hid (Below w.heap.size w wr) := hbel
      clear hgot hE hba hl HR hby hbel HEND HBT
      go_wp2_with fail
      refine (HRD.out _).mono ?_
      rintro r u6 ⟨rfl, hb6⟩
      have HB8 : Hid (Below w.heap.size w u6) := bsq HBL.out hb6
      clear hb6 HBL hcv2
      go_wp2
      go_ret
      exact ⟨rfl, HB8.out⟩
set_option maxHeartbeats 2000000 in
theorem outside (k a e f c : Int) (d : ByteArray) (i : Int) (b : Int) (s : ByteArray) (hlow : -9223372036854775808 ≤ i ∧ i ≤ 9223372036854775807) (hlow2 : 0 ≤ b ∧ b ≤ 65535) (hs : s.size ≤ 67)
    (hd : (c != 0) = true ∨ ((c != 0) = false ∧ (((k != 3) = true ∧ (k != 11) = true) ∨ ((k != 3) = false ∧ (b = 0 ∨ ((b == 0) = false ∧ (i < 8 ∨ (8 ≤ i ∧ 8 * (s.size : Int) ≤ i))))) ∨ (((k != 3) = true ∧ (k != 11) = false) ∧ (b = 0 ∨ ((b == 0) = false ∧ (i < 8 ∨ (8 ≤ i ∧ 8 * (s.size : Int) ≤ i))))))))
    (HW : Hid (∀ w : World, Calls Try.prog 6 #[pk k a e f d] w fun r w' => r = .returned (.tuple #[.string s, .int .i64 c]) ∧ Below w.heap.size w w'))
    (HL : Hid (∀ w : World, Calls Try.prog 7 #[] w fun r w' => r = .returned (.bool true) ∧ Below w.heap.size w w')) (w : World) :
    Calls Try.prog 5 #[pk k a e f d, .int .i64 i, .int .u16 b] w fun e w' => e = .returned (.bool true) ∧ Below w.heap.size w w' := by
  have P1 : Hid _ := pk_alloc w k a e f d
  rcases hd with z | ⟨z, ⟨h, h'⟩ | ⟨h, rfl | ⟨hb, hi | ⟨hi, hj⟩⟩⟩ | ⟨⟨h, h'⟩, rfl | ⟨hb, hi | ⟨hi, hj⟩⟩⟩⟩
  all_goals go_enter Try.func5, Try.ntmps5
  all_goals go_wp2_with fail
  all_goals refine (HW.out _).mono ?_
  all_goals rintro r u1 ⟨rfl, hb1⟩
  all_goals have HB : Hid (Below w.heap.size w u1) := bsq (balloc w _) hb1
  all_goals have Q1 : Hid _ := P1.out.below hb1
  all_goals clear hb1 P1
  all_goals go_wp2_with fail
  all_goals refine (HL.out _).mono ?_
  all_goals rintro r u ⟨rfl, hb2⟩
  all_goals have HB2 : Hid (Below w.heap.size w u) := bsq HB.out hb2
  all_goals obtain ⟨z0, z1, z2, z3, z4, z5⟩ := Q1.out.below hb2
  all_goals clear hb2 HB Q1
  all_goals go_wp2_with fail
  all_goals refine (HL.out _).mono ?_
  all_goals rintro r u5 ⟨rfl, hb2⟩
  all_goals have HB3 : Hid (Below w.heap.size w u5) := bsq HB2.out hb2
  all_goals clear hb2 HB2
  all_goals go_wp2
  all_goals go_ret
  all_goals exact ⟨rfl, HB3.out⟩
theorem walk (a0k a0a a0e a0f : Int) (a0d : ByteArray) (a1 a2 : Int)
    (w0k : (Lit.int .i64 a0k).wf = true) (w0a : (Lit.int .i64 a0a).wf = true) (w0e : (Lit.int .i64 a0e).wf = true) (w0f : (Lit.int .i64 a0f).wf = true) (w0d : a0d.size ≤ maxLen) (w1 : (Lit.int .i64 a1).wf = true) (w2 : (Lit.int .u16 a2).wf = true) (w : World) :
    Calls Try.prog 5 #[pk a0k a0a a0e a0f a0d, .int .i64 a1, .int .u16 a2] w fun e w' => e = .returned (.bool true) ∧ Below w.heap.size w w' := by
  have b1 := bounds_i64 w1
  have b2 := bounds_u16 w2
  obtain ⟨c, s, hc, h1, h2, HC, HW⟩ := write_any a0k a0a a0e a0f a0d
  by_cases z : c = 0
  · have hg := (code_zero hc).1 z
    have hn : nums s = wtext a0k a0a a0e a0f (nums a0d) := by rw [h1 z, nums_str _ (wtext_byt hg.1 (nums_byt _))]
    have hsz : s.size ≤ 67 := by rw [← nums_length, hn]; exact wtext_len hg
    have z' : (c != 0) = false := by simp [z]
    have hout : (a2 = 0 ∨ ((a2 == 0) = false ∧ (a1 < 8 ∨ (8 ≤ a1 ∧ 8 * (s.size : Int) ≤ a1)))) ∨ (a2 ≠ 0 ∧ 8 ≤ a1 ∧ a1 < 8 * (s.size : Int)) := by
      by_cases h0 : a2 = 0
      · exact .inl (.inl h0)
      · by_cases h8 : 8 ≤ a1 ∧ a1 < 8 * (s.size : Int)
        · exact .inr ⟨h0, h8⟩
        · exact .inl (.inr ⟨by simp [h0], by omega⟩)
    by_cases k3 : a0k = 3
    · have hk : (a0k != 3) = false := by simp [k3]
      rcases hout with h | ⟨h0, h8, hlt⟩
      · exact outside a0k a0a a0e a0f c a0d a1 a2 s b1 b2 hsz (.inr ⟨z', .inr (.inl ⟨hk, h⟩)⟩) HW lives_any w
      · obtain ⟨n, hn8⟩ := Int.eq_ofNat_of_zero_le (show 0 ≤ a1 - 8 by omega)
        obtain ⟨b, rfl⟩ := Int.eq_ofNat_of_zero_le b2.1
        obtain rfl : a1 = ((n + 8 : Nat) : Int) := by omega
        subst z
        exact inside0 a0k a0a a0e a0f a0d n b s hg hn hsz (by omega) (by omega) (by omega) hk HW lives_any w
    · have hk : (a0k != 3) = true := by simp [k3]
      by_cases k11 : a0k = 11
      · have hk2 : (a0k != 11) = false := by simp [k11]
        rcases hout with h | ⟨h0, h8, hlt⟩
        · exact outside a0k a0a a0e a0f c a0d a1 a2 s b1 b2 hsz (.inr ⟨z', .inr (.inr ⟨⟨hk, hk2⟩, h⟩)⟩) HW lives_any w
        · obtain ⟨n, hn8⟩ := Int.eq_ofNat_of_zero_le (show 0 ≤ a1 - 8 by omega)
          obtain ⟨b, rfl⟩ := Int.eq_ofNat_of_zero_le b2.1
          obtain rfl : a1 = ((n + 8 : Nat) : Int) := by omega
          subst z
          exact inside1 a0k a0a a0e a0f a0d n b s hg hn hsz (by omega) (by omega) (by omega) hk hk2 HW lives_any w
      · exact outside a0k a0a a0e a0f c a0d a1 a2 s b1 b2 hsz (.inr ⟨z', .inl ⟨hk, by simp [k11]⟩⟩) HW lives_any w
  · have hs := h2 z
    exact outside a0k a0a a0e a0f c a0d a1 a2 s b1 b2 (by rw [hs]; decide) (.inl (by simp [z])) HW lives_any w
end Go.Proofs.Ytepifjimfcnggab.packetBurst
