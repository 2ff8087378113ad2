/- CrcBurst: the walk. -/
import Derived.Test.YtleffgjbdbclhabCrcA
import Derived.Test.YtleffgjbdbclhabByts
import Derived.Below
import Derived.OpenShut
import Derived.Deep.RegionHeld3
namespace Go.Proofs.Ytleffgjbdbclhab.crcBurst
open Go.RowKit Go.PlainAid Go.Proofs.Ytleffgjbdbclhab.lane Go.Proofs.Ytleffgjbdbclhab.crc

theorem shl8_all : ∀ i : Fin 8, (2 ^ i.val < 256) ∧ (2 : Int) ^ i.val % 256 = ((2 ^ i.val : Nat) : Int) := by decide +kernel
theorem shl8 (i : Nat) (hi : i < 8) : ∃ p : Nat, p = 2 ^ i ∧ p < 256 ∧ (2 : Int) ^ i % 256 = (p : Int) :=
  ⟨_, rfl, (shl8_all ⟨i, hi⟩).1, (shl8_all ⟨i, hi⟩).2⟩

set_option linter.unusedVariables false
set_option maxRecDepth 100000 in
set_option maxHeartbeats 2000000 in
theorem walk (a0 : ByteArray) (a1 : Int) (a2 : Int) (w0 : a0.size ≤ maxLen) (w1 : (Lit.int .i64 a1).wf = true) (w2 : (Lit.int .u16 a2).wf = true) (hs0 : a0.size ≤ 140737488351232) (w : World) :
    Calls Try.prog 3 #[.string a0, .int .i64 a1, .int .u16 a2] w fun e w' => e = .returned (.bool true) ∧ Below w.heap.size w w' := by
  have b1 := bounds_i64 w1
  have b2 := bounds_u16 w2
  clear w0 w1 w2
  by_cases hr : 0 ≤ a1 ∧ a1 < 8 * (a0.size : Int) ∧ a2 ≠ 0
  · obtain ⟨a, rfl⟩ := Int.eq_ofNat_of_zero_le hr.1
    obtain ⟨b, rfl⟩ := Int.eq_ofNat_of_zero_le b2.1
    have ha : a < 8 * a0.size := by omega
    have hb : b < 65536 := by omega
    have hb0 : b ≠ 0 := by omega
    have hd0 : ((b : Int) == 0) = false := by simp; omega
    clear hr b1 b2
    have hcv := run_bytes_of_string (P := Try.prog) w 9 24 5 a0 Try.underlying9 Try.underlying24 Try.underlying5
    have hby := byts_of w a0 (grownCap w a0.size 0 5)
    obtain ⟨cap, hcap⟩ : ∃ cap, grownCap w a0.size 0 5 = cap := ⟨_, rfl⟩
    rw [hcap] at hcv hby
    have hbel : Below w.heap.size w (w.drew.alloc (.cells (bytesRow a0 cap) 5 ((bytesRow a0 cap).size, (bytesRow a0 cap).size + 1))) := (Below.refl _ _).drew.alloc (Nat.le_refl _) _
    obtain ⟨u3, hu3⟩ : ∃ u3 : World, w.drew.alloc (.cells (bytesRow a0 cap) 5 ((bytesRow a0 cap).size, (bytesRow a0 cap).size + 1)) = u3 := ⟨_, rfl⟩
    rw [hu3] at hcv hby hbel
    have HBY : Hid (Byts u3 w.heap.size a0.size (nums a0)) := hby
    have HBE : Hid (Below w.heap.size w u3) := hbel
    clear hcap hu3 hby hbel
    go_enter Try.func3, Try.ntmps3
    go_wp2_with fail
    refine (lives_any _).mono ?_
    rintro e w' ⟨rfl, rfl⟩
    go_wp2_with fail
    go_loopw [29] (fun i wr => ∃ (k : Nat) (acc : List Int), k ≤ 16 ∧ i = .int .i64 (k : Int) ∧ Byts wr w.heap.size a0.size acc ∧ Below w.heap.size w wr ∧ Hid (Byt acc ∧ txt acc = txt (nums a0) ^^^ 2 ^ a * (b % 2 ^ k)))
      (fun i _ => 16 - (intOf i).toNat)
    case atStart => exact ⟨0, nums a0, by omega, rfl, HBY.out, HBE.out, nums_byt a0, by simp [Nat.mod_one]⟩
    case round =>
      clear HBY HBE hcv
      obtain ⟨k, acc, hk, rfl, hby, hbel, HR⟩ := hrel
      have hsz := hbel.size
      by_cases hlt : k < 16
      · have hbk : b / 2 ^ k < 65536 := Nat.lt_of_le_of_lt (Nat.div_le_self _ _) hb
        have eb := and1_u16 (b / 2 ^ k) hbk
        rw [show ((b / 2 ^ k : Nat) : Int) = (b : Int) / 2 ^ k by simp] at eb
        have hlow := low_step b k
        by_cases hbit : b / 2 ^ k % 2 = 1
        · rw [if_pos hbit] at hlow
          have hbit' : ((b : Int) / 2 ^ k % 2 == 1) = true := by
            have : (((b / 2 ^ k % 2 : Nat) : Int) == 1) = true := by rw [hbit]; rfl
            simpa using this
          by_cases hin : a + k < 8 * a0.size
          · have hj : (a + k) / 8 < a0.size := by omega
            have hce := hby.cell ((a + k) / 8) hj
            have hfr := hby.free ((a + k) / 8) hj
            have hx : Byt acc := HR.out.1
            have hxg : acc[(a + k) / 8]? = some (acc.getD ((a + k) / 8) 0) := by
              have := hby.len
              rw [List.getElem?_eq_getElem (by omega)]; simp [List.getD, List.getElem?_eq_getElem (show (a + k) / 8 < acc.length by omega)]
            have hxb := hx _ (List.mem_of_getElem? hxg)
            obtain ⟨p, hp, hpl, ep⟩ := shl8 ((a + k) % 8) (by omega)
            have ht := txt_set acc ((a + k) / 8) ((a + k) % 8) _ hx hxg (by omega)
            rw [← hp] at ht
            obtain ⟨x, hxe⟩ : ∃ x, x = acc.getD ((a + k) / 8) 0 := ⟨_, rfl⟩
            rw [← hxe] at hce hxb ht hxg
            have exr := xor_u8 x.toNat p x (p : Int) (by omega) hpl (by omega) rfl
            have hyl := xor_lt8 (show x.toNat < 256 by omega) hpl
            obtain ⟨y, hye⟩ : ∃ y, y = x.toNat ^^^ p := ⟨_, rfl⟩
            rw [← hye] at exr ht hyl
            have HT : Hid (Byt (acc.set ((a + k) / 8) (y : Int)) ∧ txt (acc.set ((a + k) / 8) (y : Int)) = txt (nums a0) ^^^ 2 ^ a * (b % 2 ^ (k + 1))) := by
              refine ⟨?_, ?_⟩
              · intro z hz
                rcases List.mem_or_eq_of_mem_set hz with hz | rfl
                · exact hx z hz
                · omega
              · rw [ht, HR.out.2, hlow, mul_xor, Nat.xor_assoc, ← Nat.pow_add, show 8 * ((a + k) / 8) + (a + k) % 8 = a + k by omega]
            have HY : Hid (Byts wr w.heap.size a0.size acc) := hby
            clear hlow HR ht hx hxg hxe hye hp hbit hby
            go_wp2_with fail
            go_region
            go_wp2
            go_roundw
            case rel => exact ⟨k + 1, acc.set ((a + k) / 8) (y : Int), by omega, by go_num, (HY.out.set _ hj _).drew, (hbel.setCell (Nat.le_refl _) _).drew, HT⟩
            case measure => simp [intOf]; omega
          · clear hlow HR hbit
            go_wp2
            go_ret
            exact ⟨rfl, hbel⟩
        · rw [if_neg hbit] at hlow
          have hbit' : ((b : Int) / 2 ^ k % 2 == 1) = false := by
            have hz : b / 2 ^ k % 2 = 0 := by omega
            have : (((b / 2 ^ k % 2 : Nat) : Int) == 1) = false := by rw [hz]; rfl
            simpa using this
          have HT : Hid (Byt acc ∧ txt acc = txt (nums a0) ^^^ 2 ^ a * (b % 2 ^ (k + 1))) := ⟨HR.out.1, by rw [hlow]; exact HR.out.2⟩
          clear hlow HR hbit
          go_wp2
          go_roundw
          case rel => exact ⟨k + 1, acc, by omega, by go_num, hby, hbel, HT⟩
          case measure => simp [intOf]; omega
      · obtain rfl : k = 16 := by omega
        have hl := hby.len
        have hne : more 0 (nums (strOfNums acc)) ≠ more 0 (nums a0) := by
          rw [nums_str acc HR.out.1]
          refine burst (nums a0) acc (nums_byt a0) HR.out.1 (by rw [hl, nums_length]) a b (by rw [nums_length]; omega) hb hb0 ?_
          have h := HR.out.2
          rw [Nat.mod_eq_of_lt (by exact hb)] at h
          exact h
        have hS : (strOfNums acc).size ≤ maxLen := by rw [str_size, hl]; unfold maxLen; omega
        have hcv2 := hby.conv (c := cap)
        have hfin : (((more 0 (nums (strOfNums acc)) : Nat) : Int) != ((more 0 (nums a0) : Nat) : Int)) = true := by simp; omega
        have HS : Hid ((strOfNums acc).size ≤ maxLen) := hS
        clear HR hne hl hS
        go_wp2_with fail
        refine (sixteen_any (strOfNums acc) HS.out _).mono ?_
        rintro e w' ⟨rfl, rfl⟩
        go_wp2_with fail
        refine (sixteen_any a0 (by unfold maxLen; omega) _).mono ?_
        rintro e w' ⟨rfl, rfl⟩
        go_wp2
        go_ret
        exact ⟨rfl, hbel⟩
  · by_cases h0 : a2 = 0
    · subst h0
      clear hr
      go_enter Try.func3, Try.ntmps3
      go_wp2_with fail
      refine (lives_any _).mono ?_
      rintro e w' ⟨rfl, rfl⟩
      go_wp2_with (go_at_call 5; refine (lives_any _).mono ?_; rintro e w' ⟨rfl, rfl⟩)
      all_goals go_ret
      all_goals exact ⟨rfl, Below.refl _ _⟩
    · have hd : a1 < 0 ∨ 8 * (a0.size : Int) ≤ a1 := by omega
      clear hr
      go_enter Try.func3, Try.ntmps3
      go_wp2_with fail
      refine (lives_any _).mono ?_
      rintro e w' ⟨rfl, rfl⟩
      go_wp2_with (go_at_call 5; refine (lives_any _).mono ?_; rintro e w' ⟨rfl, rfl⟩)
      all_goals go_ret
      all_goals exact ⟨rfl, Below.refl _ _⟩
end Go.Proofs.Ytleffgjbdbclhab.crcBurst
