/- PacketOdd: the walk. -/
import Derived.Test.YtepifjimfcnggabPackL
import Derived.Test.YtepifjimfcnggabPackT
import Derived.Test.YtepifjimfcnggabByts
import Derived.Test.YtepifjimfcnggabCrcB
import Derived.Deep.RegionHeld3
namespace Go.Proofs.Ytepifjimfcnggab.packetOdd
open Go.RowKit Go.PlainAid Go.Proofs.Ytepifjimfcnggab.lane Go.Proofs.Ytepifjimfcnggab.crc Go.Proofs.Ytepifjimfcnggab.pack

theorem wtext_len {k a e f : Int} {d : List Int} (h : good k a e f d) : (wtext k a e f d).length ≤ 67 := by
  unfold wtext
  have := h.2.2.2
  split
  · simp only [List.length_cons, List.length_append, two_len]; omega
  · split <;> simp [sealw, two]
theorem dif_set (l r : List Int) (hl : l.length = r.length) (j : Nat) (x : Int) (m : Nat) (hx : l[j]? = some x) : dif (l.set j ((x.toNat ^^^ m : Nat) : Int)) r % 2 = (dif l r + pop 64 m) % 2 := by
  induction l generalizing r j with
  | nil => simp at hx
  | cons y l ih =>
    cases r with
    | nil => simp at hl
    | cons z r =>
      cases j with
      | zero =>
        simp at hx
        subst hx
        have h1 := pop_xor 64 (y.toNat ^^^ m) z.toNat
        have h2 := pop_xor 64 y.toNat m
        have h3 := pop_xor 64 y.toNat z.toNat
        simp only [List.set_cons_zero, dif, Int.toNat_natCast]
        omega
      | succ j =>
        simp at hx
        have := ih r (by simpa using hl) j hx
        simp only [List.set_cons_succ, dif]
        omega
theorem dif_self (l : List Int) : dif l l = 0 := by
  induction l with
  | nil => rfl
  | cons x l ih => simp only [dif, ih, Nat.xor_self, pop_zero]
/-- the row under way: its first byte stays, the parity of the bits that were turned is k's -/
def Mid (F : Int) (r : List Int) (k : Nat) (acc : List Int) : Prop := ∃ r', acc = F :: r' ∧ Byt r' ∧ r'.length = r.length ∧ dif r' r % 2 = k % 2
theorem mid_set {F : Int} {r : List Int} {k q : Nat} {acc : List Int} (h : Mid F r k acc) (x : Int) (m y o : Nat) (hm : m < 256) (hx : acc[q + 1]? = some x) (hy : y = x.toNat ^^^ m) (ho : o = pop 64 m) :
    Mid F r (k + o) (acc.set (q + 1) (y : Int)) := by
  obtain ⟨r', rfl, hb, hl, ht⟩ := h
  rw [List.getElem?_cons_succ] at hx
  rw [List.set_cons_succ]
  have hxb := hb x (List.mem_of_getElem? hx)
  refine ⟨_, rfl, byt_set hb _ y (by rw [hy]; exact xor_lt8 (by omega) hm), by rw [List.length_set]; exact hl, ?_⟩
  have := dif_set r' r hl q x m hx
  rw [← hy, ← ho] at this
  omega
theorem mid_end {k a e f : Int} {d : List Int} (hg : good k a e f d) (hd : Byt d) (c : shp k = 3) {n : Nat} {acc : List Int} (hn : n % 2 = 1) (h : Mid (fb k) (wrest k a e f d) n acc) : rdE acc = 5 := by
  obtain ⟨r', rfl, hbt, hl, ht⟩ := h
  rw [rdE_fb hg.1]
  refine sum_told hg hd c hbt hl ?_
  intro he
  have := parity r' (wrest k a e f d) hbt (wrest_byt hg.1 hd) hl
  rw [he, Nat.xor_self, pop_zero] at this
  omega
theorem mid_byt {k : Int} (h0 : shp k ≠ 0) {r : List Int} {n : Nat} {acc : List Int} (h : Mid (fb k) r n acc) : Byt acc := by
  obtain ⟨r', h1, h2, _, _⟩ := h
  rw [h1]
  have hr := shp_range h0
  intro x hx
  rcases List.mem_cons.1 hx with rfl | hx
  · exact fb_byte ⟨by omega, by omega⟩
  · exact h2 x hx
set_option linter.unusedVariables false
set_option maxRecDepth 100000 in
set_option maxHeartbeats 2000000 in
theorem inside0 (a0k a0a a0e a0f : Int) (a0d : ByteArray) (a1 : ByteArray) (s : ByteArray) (hg : good a0k a0a a0e a0f (nums a0d)) (hn : nums s = wtext a0k a0a a0e a0f (nums a0d)) (hsz : s.size ≤ 67) (hm : a1.size ≤ maxLen)
    (hk : (a0k != 3) = false)
    (HW : Hid (∀ w : World, Calls Try.prog 6 #[pk a0k a0a a0e a0f a0d] w fun r w' => r = .returned (.tuple #[.string s, .int .i64 0]) ∧ Below w.heap.size w w'))
    (HL : Hid (∀ w : World, Calls Try.prog 7 #[] w fun r w' => r = .returned (.bool true) ∧ Below w.heap.size w w')) (w : World) :
    Calls Try.prog 4 #[pk a0k a0a a0e a0f a0d, .string a1] w fun e w' => e = .returned (.bool true) ∧ Below w.heap.size w w' := by
  have hsh : shp a0k = 3 := by
    have : a0k = 3 ∨ a0k = 11 := by simp at hk; omega
    rcases this with rfl | rfl <;> decide
  have hl0 : nums s = fb a0k :: wrest a0k a0a a0e a0f (nums a0d) := by rw [hn, wtext_cons]
  have hs1 : 1 ≤ s.size := by rw [← nums_length, hl0, List.length_cons]; omega
  have HM0 : Hid (Mid (fb a0k) (wrest a0k a0a a0e a0f (nums a0d)) 0 (nums s)) := ⟨_, hl0, wrest_byt hg.1 (nums_byt _), rfl, by rw [dif_self]⟩
  have HEND : Hid (∀ n acc, n % 2 = 1 → Mid (fb a0k) (wrest a0k a0a a0e a0f (nums a0d)) n acc → rdE acc = 5) := fun n acc hn h => mid_end hg (nums_byt _) hsh hn h
  have HBT : Hid (∀ n acc, Mid (fb a0k) (wrest a0k a0a a0e a0f (nums a0d)) n acc → Byt acc) := fun n acc h => mid_byt hg.1 h
  generalize wrest a0k a0a a0e a0f (nums a0d) = R at *
  generalize fb a0k = F at *
  have P1 : Hid _ := pk_alloc w a0k a0a a0e a0f a0d
  have hbt := get_bt a1
  unfold maxLen at hm
  clear hg hn hsh hl0
  go_enter Try.func4, Try.ntmps4
  go_wp2_with fail
  refine (HW.out _).mono ?_
  rintro r u1 ⟨rfl, hb1⟩
  have HB : Hid (Below w.heap.size w u1) := bsq (balloc w _) hb1
  have Q1 : Hid _ := P1.out.below hb1
  clear hb1 P1
  go_wp2_with fail
  refine (HL.out _).mono ?_
  rintro r u ⟨rfl, hb2⟩
  have HB2 : Hid (Below w.heap.size w u) := bsq HB.out hb2
  obtain ⟨z0, z1, z2, z3, z4, z5⟩ := Q1.out.below hb2
  clear hb2 HB Q1
  have hcv := run_bytes_of_string (P := Try.prog) u 9 28 5 s Try.underlying9 Try.underlying28 Try.underlying5
  have hby := byts_of u s (grownCap u s.size 0 5)
  obtain ⟨cap, hcap⟩ : ∃ cap, grownCap u s.size 0 5 = cap := ⟨_, rfl⟩
  rw [hcap] at hcv hby
  have hbel : Below u.heap.size u (u.drew.alloc (.cells (bytesRow s cap) 5 ((bytesRow s cap).size, (bytesRow s cap).size + 1))) := (Below.refl _ _).drew.alloc (Nat.le_refl _) _
  obtain ⟨u3, hu3⟩ : ∃ u3 : World, u.drew.alloc (.cells (bytesRow s cap) 5 ((bytesRow s cap).size, (bytesRow s cap).size + 1)) = u3 := ⟨_, rfl⟩
  rw [hu3] at hcv hby hbel
  have HBY : Hid (Byts u3 u.heap.size s.size (nums s)) := hby
  have HB3 : Hid (Below w.heap.size w u3) := bsq HB2.out hbel
  have HS : Hid (w.heap.size ≤ u.heap.size) := HB2.out.size
  clear hcap hu3 hby hbel HB2
  go_wp2_with fail
  go_loopw [8, 9] (fun kv i wr => ∃ (q n : Nat) (acc : List Int), q + 1 ≤ s.size ∧ n ≤ 64 * q ∧ i = .int .i64 ((q : Int) + 1) ∧ kv = .int .i64 (n : Int) ∧ Byts wr u.heap.size s.size acc ∧ Below w.heap.size w wr ∧ Hid (Mid F R n acc))
    (fun _ i _ => 70 - (intOf i).toNat)
  case atStart => exact ⟨0, 0, nums s, by omega, by omega, rfl, rfl, HBY.out, HB3.out, HM0.out⟩
  case round =>
    clear HBY HB3 hcv HM0 z1 z2 z3 z4 z5
    obtain ⟨q, n, acc, hq, hn, rfl, rfl, hby, hbel, HR⟩ := hrel
    by_cases hlt : q + 1 < s.size ∧ q < a1.size
    · obtain ⟨hl1, hl2⟩ := hlt
      have hce := hby.cell (q + 1) hl1
      have hfr := hby.free (q + 1) hl1
      have hx := HBT.out n acc HR.out
      have hxg : acc[q + 1]? = some (acc.getD (q + 1) 0) := by
        have := hby.len
        rw [List.getElem?_eq_getElem (by omega)]; simp [List.getD, List.getElem?_eq_getElem (show q + 1 < acc.length by omega)]
      have hxb := hx _ (List.mem_of_getElem? hxg)
      obtain ⟨x, hxe⟩ : ∃ x, x = acc.getD (q + 1) 0 := ⟨_, rfl⟩
      rw [← hxe] at hce hxb hxg
      have m0 := bt_nonneg a1 q
      have m1 := bt_le a1 q
      have exr := xor_u8 x.toNat (bt a1 q).toNat x (bt a1 q) (by omega) (by omega) (by omega) (by omega)
      have hyl := xor_lt8 (show x.toNat < 256 by omega) (show (bt a1 q).toNat < 256 by omega)
      obtain ⟨y, hye⟩ : ∃ y, y = x.toNat ^^^ (bt a1 q).toNat := ⟨_, rfl⟩
      rw [← hye] at exr hyl
      have hpl := pop_le 64 (bt a1 q).toNat
      obtain ⟨o, hoe⟩ : ∃ o, o = pop 64 (bt a1 q).toNat := ⟨_, rfl⟩
      rw [← hoe] at hpl
      have HT : Hid (Mid F R (n + o) (acc.set (q + 1) (y : Int))) := mid_set HR.out x _ y o (by omega) hxg hye hoe
      have HO : Hid (∀ w : World, Calls Try.prog 9 #[.int .u64 (bt a1 q)] w fun e w' => e = .returned (.int .i64 (o : Nat)) ∧ w' = w) := by
        intro w
        have h := ones_any (bt a1 q).toNat (by omega) w
        rw [← hoe, show (((bt a1 q).toNat : Nat) : Int) = bt a1 q by omega] at h
        exact h
      have HY : Hid (Byts wr u.heap.size s.size acc) := hby
      have g1 : (q : Int) < (a1.size : Int) := by omega
      clear HR hx hxg hxe hye hby hoe
      go_wp2_with fail
      go_region
      go_wp2_with fail
      refine (HO.out _).mono ?_
      rintro r v ⟨rfl, rfl⟩
      go_wp2
      go_roundw
      case rel => exact ⟨q + 1, n + o, acc.set (q + 1) (y : Int), by omega, by omega, by go_num, by go_num, (HY.out.set _ hl1 _).drew, (hbel.setCell HS.out _).drew, HT⟩
      case measure => simp [intOf]; omega
    · have hl := hby.len
      have hba := HBT.out n acc HR.out
      obtain ⟨k', a', e', f', d', c', HRD, hc', hgot⟩ := read_any (strOfNums acc) (by rw [str_size, hl]; unfold maxLen; omega)
      rw [nums_str _ hba] at hc'
      have hfin : ((n : Int) % 2 == 0) = true ∨ (((n : Int) % 2 == 0) = false ∧ (c' == 5) = true) := by
        rcases Nat.mod_two_eq_zero_or_one n with h | h
        · left; simp; omega
        · right
          have := HEND.out n acc h HR.out
          rw [this] at hc'
          simp [hc']; omega
      have hst : (¬ q + 1 < s.size) ∨ (q + 1 < s.size ∧ ¬ q < a1.size) := by omega
      replace HRD : Hid _ := HRD
      have hcv2 := hby.conv (c := cap)
      have HBL : Hid (Below w.heap.size w wr) := hbel
      clear hgot hba hl HR hby hbel HEND HBT hlt hc'
      rcases hst with h1 | ⟨h1, h2⟩
      all_goals go_wp2_with fail
      all_goals refine (HRD.out _).mono ?_
      all_goals rintro r u6 ⟨rfl, hb6⟩
      all_goals have HB8 : Hid (Below w.heap.size w u6) := bsq HBL.out hb6
      all_goals clear hb6 HBL hcv2
      all_goals rcases hfin with h3 | ⟨h3, h4⟩
      all_goals go_wp2
      all_goals go_ret
      all_goals exact ⟨rfl, HB8.out⟩
set_option maxRecDepth 100000 in
set_option maxHeartbeats 2000000 in
theorem inside1 (a0k a0a a0e a0f : Int) (a0d : ByteArray) (a1 : ByteArray) (s : ByteArray) (hg : good a0k a0a a0e a0f (nums a0d)) (hn : nums s = wtext a0k a0a a0e a0f (nums a0d)) (hsz : s.size ≤ 67) (hm : a1.size ≤ maxLen)
    (hk : (a0k != 3) = true) (hk2 : (a0k != 11) = false)
    (HW : Hid (∀ w : World, Calls Try.prog 6 #[pk a0k a0a a0e a0f a0d] w fun r w' => r = .returned (.tuple #[.string s, .int .i64 0]) ∧ Below w.heap.size w w'))
    (HL : Hid (∀ w : World, Calls Try.prog 7 #[] w fun r w' => r = .returned (.bool true) ∧ Below w.heap.size w w')) (w : World) :
    Calls Try.prog 4 #[pk a0k a0a a0e a0f a0d, .string a1] w fun e w' => e = .returned (.bool true) ∧ Below w.heap.size w w' := by
  have hsh : shp a0k = 3 := by
    have : a0k = 3 ∨ a0k = 11 := by simp at hk2; omega
    rcases this with rfl | rfl <;> decide
  have hl0 : nums s = fb a0k :: wrest a0k a0a a0e a0f (nums a0d) := by rw [hn, wtext_cons]
  have hs1 : 1 ≤ s.size := by rw [← nums_length, hl0, List.length_cons]; omega
  have HM0 : Hid (Mid (fb a0k) (wrest a0k a0a a0e a0f (nums a0d)) 0 (nums s)) := ⟨_, hl0, wrest_byt hg.1 (nums_byt _), rfl, by rw [dif_self]⟩
  have HEND : Hid (∀ n acc, n % 2 = 1 → Mid (fb a0k) (wrest a0k a0a a0e a0f (nums a0d)) n acc → rdE acc = 5) := fun n acc hn h => mid_end hg (nums_byt _) hsh hn h
  have HBT : Hid (∀ n acc, Mid (fb a0k) (wrest a0k a0a a0e a0f (nums a0d)) n acc → Byt acc) := fun n acc h => mid_byt hg.1 h
  generalize wrest a0k a0a a0e a0f (nums a0d) = R at *
  generalize fb a0k = F at *
  have P1 : Hid _ := pk_alloc w a0k a0a a0e a0f a0d
  have hbt := get_bt a1
  unfold maxLen at hm
  clear hg hn hsh hl0
  go_enter Try.func4, Try.ntmps4
  go_wp2_with fail
  refine (HW.out _).mono ?_
  rintro r u1 ⟨rfl, hb1⟩
  have HB : Hid (Below w.heap.size w u1) := bsq (balloc w _) hb1
  have Q1 : Hid _ := P1.out.below hb1
  clear hb1 P1
  go_wp2_with fail
  refine (HL.out _).mono ?_
  rintro r u ⟨rfl, hb2⟩
  have HB2 : Hid (Below w.heap.size w u) := bsq HB.out hb2
  obtain ⟨z0, z1, z2, z3, z4, z5⟩ := Q1.out.below hb2
  clear hb2 HB Q1
  have hcv := run_bytes_of_string (P := Try.prog) u 9 28 5 s Try.underlying9 Try.underlying28 Try.underlying5
  have hby := byts_of u s (grownCap u s.size 0 5)
  obtain ⟨cap, hcap⟩ : ∃ cap, grownCap u s.size 0 5 = cap := ⟨_, rfl⟩
  rw [hcap] at hcv hby
  have hbel : Below u.heap.size u (u.drew.alloc (.cells (bytesRow s cap) 5 ((bytesRow s cap).size, (bytesRow s cap).size + 1))) := (Below.refl _ _).drew.alloc (Nat.le_refl _) _
  obtain ⟨u3, hu3⟩ : ∃ u3 : World, u.drew.alloc (.cells (bytesRow s cap) 5 ((bytesRow s cap).size, (bytesRow s cap).size + 1)) = u3 := ⟨_, rfl⟩
  rw [hu3] at hcv hby hbel
  have HBY : Hid (Byts u3 u.heap.size s.size (nums s)) := hby
  have HB3 : Hid (Below w.heap.size w u3) := bsq HB2.out hbel
  have HS : Hid (w.heap.size ≤ u.heap.size) := HB2.out.size
  clear hcap hu3 hby hbel HB2
  go_wp2_with fail
  go_loopw [8, 9] (fun kv i wr => ∃ (q n : Nat) (acc : List Int), q + 1 ≤ s.size ∧ n ≤ 64 * q ∧ i = .int .i64 ((q : Int) + 1) ∧ kv = .int .i64 (n : Int) ∧ Byts wr u.heap.size s.size acc ∧ Below w.heap.size w wr ∧ Hid (Mid F R n acc))
    (fun _ i _ => 70 - (intOf i).toNat)
  case atStart => exact ⟨0, 0, nums s, by omega, by omega, rfl, rfl, HBY.out, HB3.out, HM0.out⟩
  case round =>
    clear HBY HB3 hcv HM0 z1 z2 z3 z4 z5
    obtain ⟨q, n, acc, hq, hn, rfl, rfl, hby, hbel, HR⟩ := hrel
    by_cases hlt : q + 1 < s.size ∧ q < a1.size
    · obtain ⟨hl1, hl2⟩ := hlt
      have hce := hby.cell (q + 1) hl1
      have hfr := hby.free (q + 1) hl1
      have hx := HBT.out n acc HR.out
      have hxg : acc[q + 1]? = some (acc.getD (q + 1) 0) := by
        have := hby.len
        rw [List.getElem?_eq_getElem (by omega)]; simp [List.getD, List.getElem?_eq_getElem (show q + 1 < acc.length by omega)]
      have hxb := hx _ (List.mem_of_getElem? hxg)
      obtain ⟨x, hxe⟩ : ∃ x, x = acc.getD (q + 1) 0 := ⟨_, rfl⟩
      rw [← hxe] at hce hxb hxg
      have m0 := bt_nonneg a1 q
      have m1 := bt_le a1 q
      have exr := xor_u8 x.toNat (bt a1 q).toNat x (bt a1 q) (by omega) (by omega) (by omega) (by omega)
      have hyl := xor_lt8 (show x.toNat < 256 by omega) (show (bt a1 q).toNat < 256 by omega)
      obtain ⟨y, hye⟩ : ∃ y, y = x.toNat ^^^ (bt a1 q).toNat := ⟨_, rfl⟩
      rw [← hye] at exr hyl
      have hpl := pop_le 64 (bt a1 q).toNat
      obtain ⟨o, hoe⟩ : ∃ o, o = pop 64 (bt a1 q).toNat := ⟨_, rfl⟩
      rw [← hoe] at hpl
      have HT : Hid (Mid F R (n + o) (acc.set (q + 1) (y : Int))) := mid_set HR.out x _ y o (by omega) hxg hye hoe
      have HO : Hid (∀ w : World, Calls Try.prog 9 #[.int .u64 (bt a1 q)] w fun e w' => e = .returned (.int .i64 (o : Nat)) ∧ w' = w) := by
        intro w
        have h := ones_any (bt a1 q).toNat (by omega) w
        rw [← hoe, show (((bt a1 q).toNat : Nat) : Int) = bt a1 q by omega] at h
        exact h
      have HY : Hid (Byts wr u.heap.size s.size acc) := hby
      have g1 : (q : Int) < (a1.size : Int) := by omega
      clear HR hx hxg hxe hye hby hoe
      go_wp2_with fail
      go_region
      go_wp2_with fail
      refine (HO.out _).mono ?_
      rintro r v ⟨rfl, rfl⟩
      go_wp2
      go_roundw
      case rel => exact ⟨q + 1, n + o, acc.set (q + 1) (y : Int), by omega, by omega, by go_num, by go_num, (HY.out.set _ hl1 _).drew, (hbel.setCell HS.out _).drew, HT⟩
      case measure => simp [intOf]; omega
    · have hl := hby.len
      have hba := HBT.out n acc HR.out
      obtain ⟨k', a', e', f', d', c', HRD, hc', hgot⟩ := read_any (strOfNums acc) (by rw [str_size, hl]; unfold maxLen; omega)
      rw [nums_str _ hba] at hc'
      have hfin : ((n : Int) % 2 == 0) = true ∨ (((n : Int) % 2 == 0) = false ∧ (c' == 5) = true) := by
        rcases Nat.mod_two_eq_zero_or_one n with h | h
        · left; simp; omega
        · right
          have := HEND.out n acc h HR.out
          rw [this] at hc'
          simp [hc']; omega
      have hst : (¬ q + 1 < s.size) ∨ (q + 1 < s.size ∧ ¬ q < a1.size) := by omega
      replace HRD : Hid _ := HRD
      have hcv2 := hby.conv (c := cap)
      have HBL : Hid (Below w.heap.size w wr) := hbel
      clear hgot hba hl HR hby hbel HEND HBT hlt hc'
      rcases hst with h1 | ⟨h1, h2⟩
      all_goals go_wp2_with fail
      all_goals refine (HRD.out _).mono ?_
      all_goals rintro r u6 ⟨rfl, hb6⟩
      all_goals have HB8 : Hid (Below w.heap.size w u6) := bsq HBL.out hb6
      all_goals clear hb6 HBL hcv2
      all_goals rcases hfin with h3 | ⟨h3, h4⟩
      all_goals go_wp2
      all_goals go_ret
      all_goals exact ⟨rfl, HB8.out⟩
set_option maxHeartbeats 2000000 in
theorem outside (k a e f c : Int) (d : ByteArray) (m s : ByteArray)
    (hd : (c != 0) = true ∨ ((c != 0) = false ∧ (k != 3) = true ∧ (k != 11) = true))
    (HW : Hid (∀ w : World, Calls Try.prog 6 #[pk k a e f d] w fun r w' => r = .returned (.tuple #[.string s, .int .i64 c]) ∧ Below w.heap.size w w'))
    (HL : Hid (∀ w : World, Calls Try.prog 7 #[] w fun r w' => r = .returned (.bool true) ∧ Below w.heap.size w w')) (w : World) :
    Calls Try.prog 4 #[pk k a e f d, .string m] w fun e w' => e = .returned (.bool true) ∧ Below w.heap.size w w' := by
  have P1 : Hid _ := pk_alloc w k a e f d
  rcases hd with z | ⟨z, h, h'⟩
  all_goals go_enter Try.func4, Try.ntmps4
  all_goals go_wp2_with fail
  all_goals refine (HW.out _).mono ?_
  all_goals rintro r u1 ⟨rfl, hb1⟩
  all_goals have HB : Hid (Below w.heap.size w u1) := bsq (balloc w _) hb1
  all_goals have Q1 : Hid _ := P1.out.below hb1
  all_goals clear hb1 P1
  all_goals go_wp2_with fail
  all_goals refine (HL.out _).mono ?_
  all_goals rintro r u ⟨rfl, hb2⟩
  all_goals have HB2 : Hid (Below w.heap.size w u) := bsq HB.out hb2
  all_goals obtain ⟨z0, z1, z2, z3, z4, z5⟩ := Q1.out.below hb2
  all_goals clear hb2 HB Q1
  all_goals go_wp2_with fail
  all_goals refine (HL.out _).mono ?_
  all_goals rintro r u5 ⟨rfl, hb2⟩
  all_goals have HB3 : Hid (Below w.heap.size w u5) := bsq HB2.out hb2
  all_goals clear hb2 HB2
  all_goals go_wp2
  all_goals go_ret
  all_goals exact ⟨rfl, HB3.out⟩
theorem walk (a0k a0a a0e a0f : Int) (a0d : ByteArray) (a1 : ByteArray)
    (w0k : (Lit.int .i64 a0k).wf = true) (w0a : (Lit.int .i64 a0a).wf = true) (w0e : (Lit.int .i64 a0e).wf = true) (w0f : (Lit.int .i64 a0f).wf = true) (w0d : a0d.size ≤ maxLen) (w1 : a1.size ≤ maxLen) (w : World) :
    Calls Try.prog 4 #[pk a0k a0a a0e a0f a0d, .string a1] w fun e w' => e = .returned (.bool true) ∧ Below w.heap.size w w' := by
  obtain ⟨c, s, hc, h1, h2, HC, HW⟩ := write_any a0k a0a a0e a0f a0d
  by_cases z : c = 0
  · have hg := (code_zero hc).1 z
    have hn : nums s = wtext a0k a0a a0e a0f (nums a0d) := by rw [h1 z, nums_str _ (wtext_byt hg.1 (nums_byt _))]
    have hsz : s.size ≤ 67 := by rw [← nums_length, hn]; exact wtext_len hg
    by_cases k3 : a0k = 3
    · subst z
      exact inside0 a0k a0a a0e a0f a0d a1 s hg hn hsz w1 (by simp [k3]) HW lives_any w
    · by_cases k11 : a0k = 11
      · subst z
        exact inside1 a0k a0a a0e a0f a0d a1 s hg hn hsz w1 (by simp [k3]) (by simp [k11]) HW lives_any w
      · exact outside a0k a0a a0e a0f c a0d a1 s (.inr ⟨by simp [z], by simp [k3], by simp [k11]⟩) HW lives_any w
  · exact outside a0k a0a a0e a0f c a0d a1 s (.inl (by simp [z])) HW lives_any w
end Go.Proofs.Ytepifjimfcnggab.packetOdd
