/- plugref's utf: what Runes and Wide answer. -/
import Derived.Test.YtebaepkghbihkaaUtfV
namespace Go.Proofs.Ytebaepkghbihkaa.utf
set_option maxRecDepth 100000
open Go.RowKit Go.PlainAid Go.Lib Go.Proofs.Ytebaepkghbihkaa.lane

theorem rns_length (s : ByteArray) : (rns s).length ≤ s.size := by
  have h2 := runesU_length _ s.data.toList (Nat.le_refl _)
  rw [← size_eq] at h2
  exact h2
theorem decode_in (s : ByteArray) (pos : Nat) (h : pos < s.size) : pos + (Utf8.decode s pos).2 ≤ s.size := by
  rw [← decodeL_drop]
  have hne : s.data.toList.drop pos ≠ [] := by
    intro h0
    have := congrArg List.length h0
    rw [List.length_drop, ← size_eq, List.length_nil] at this
    omega
  have := decodeL_le _ hne
  rw [List.length_drop, ← size_eq] at this
  omega

set_option maxHeartbeats 1000000 in
theorem runes_any (s : ByteArray) (w : World) (hs : s.size ≤ 17000000000000) :
    Calls Try.prog 85 #[.string s] w fun e w' => ∃ v, e = .returned v ∧ Rd w' v (rns s) ∧ Below w.heap.size w w' := by
  obtain ⟨i0, hi, hz0, hz1, hz2⟩ := info_parts infoI
  have HM : Hid ((rns s).length ≤ s.size) := rns_length s
  go_enter Try.func85, Try.ntmps85
  go_wp2
  go_loopw [3, 4] (fun v p wr => ∃ (pos : Nat) (acc : List Int), pos ≤ s.size ∧ p = .int .i64 (pos : Int) ∧ Ins wr w.heap.size v acc ∧ Below w.heap.size w wr ∧ Hid (acc ++ runesU (s.data.toList.drop pos) = rns s))
    (fun _ p _ => s.size - (RowKit.intOf p).toNat)
  case atStart => exact ⟨0, [], Nat.zero_le _, rfl, Ins.nil _ _, Below.refl _ _, rfl⟩
  case round =>
    obtain ⟨pos, acc, hps, rfl, hown, hbel, HR⟩ := hrel
    have hsz := hbel.size
    by_cases hp : pos < s.size
    · have hin := decode_in s pos hp
      have hwd := decode_w s pos
      have HC : Hid (∀ w : World, Calls Try.prog 104 #[.string s, .int .i64 (pos : Int)] w fun e w' => e = .returned (.tuple #[.int .i64 ((Utf8.decode s pos).1 : Int), .int .i64 ((Utf8.decode s pos).2 : Int)]) ∧ w = w') := fun w => runeAt_any s pos w (by omega) hp
      have h := HR.out
      have hal : acc.length ≤ s.size := by
        have h2 := congrArg List.length h
        rw [List.length_append] at h2
        have := HM.out; omega
      rw [rns_at s pos hp] at h
      generalize ((Utf8.decode s pos).1 : Int) = r at h HC
      generalize (Utf8.decode s pos).2 = d at h HC hin hwd
      have HH : Hid ((acc ++ [r]) ++ runesU (s.data.toList.drop (pos + d)) = rns s) := by show _ = _; rw [List.append_assoc]; exact h
      have HO : Hid (Ins wr w.heap.size u3 acc) := hown
      clear HR h hown
      go_wp2_with fail
      refine (HC.out _).mono ?_
      rintro e w1 ⟨rfl, rfl⟩
      go_wp2_with (at_builtin; (refine wpList_append_lies _ rfl _ _ 61 rfl w.heap.size 3 i0 _ 1 8 Try.underlying61 hi hz0 hz1 hz2 rfl (by omega) u3 acc.length (acc.map (Value.int .i64)) rfl (World.ownsRow.alloc HO.out _) ⟨wr.heap.size, 0, none⟩ 1 1 [.int .i64 r] rfl rfl (World.news_of_block (cs := #[.int .i64 r]) (t := 3) (fr := (0, 0)) (heap_alloc_new wr _)) (by simp [Value.oneCell']) (by omega) (by unfold maxLen; omega) (by omega) (by simp; omega) (wr.heap.size + 1) (by simp) ?_); intro g cap w1 hown1 hgrow hat hgl)
      go_wp2
      go_roundw
      case rel => exact ⟨pos + d, acc ++ [r], hin, by go_num, Ins.push hown1, (hbel.alloc hsz _).grown hgrow (by simp; omega) HO.out.block, HH⟩
      case measure => simp [RowKit.intOf]; omega
    · have h := HR.out
      rw [rns_end s pos hp, List.append_nil] at h
      go_wp2
      go_ret
      exact ⟨_, rfl, by rw [← h]; exact Ins.rd hown, hbel⟩

theorem wtxt_small {s : ByteArray} (h : cnt (rns s) ≤ 126) : wtxt s = strOfNums (wideL (rns s)) ∧ werr s = 0 := by
  have := wideL_length (rns s)
  unfold wtxt werr
  rw [if_pos (by omega), if_pos (by omega)]; exact ⟨rfl, rfl⟩
theorem wtxt_great {s : ByteArray} (h : 126 < cnt (rns s)) : wtxt s = ⟨#[]⟩ ∧ werr s = 2 := by
  have := wideL_length (rns s)
  unfold wtxt werr
  rw [if_neg (by omega), if_neg (by omega)]; exact ⟨rfl, rfl⟩
theorem str_nil (acc : ByteArray) : acc ++ strOfNums [] = acc := by apply ByteArray.ext; simp [strOfNums]

set_option maxHeartbeats 2000000 in
theorem rwide_any (s : ByteArray) (w : World) (hs : s.size ≤ 17000000000000) :
    Calls Try.prog 59 #[.string s] w fun e w' => e = .returned (.tuple #[.string (wtxt s), .int .i64 (werr s)]) ∧ Below w.heap.size w w' := by
  have HRU : Hid (∀ w : World, Calls Try.prog 85 #[.string s] w fun e w' => ∃ v, e = .returned v ∧ Rd w' v (rns s) ∧ Below w.heap.size w w') := fun w => runes_any s w hs
  have HOK : Hid (∀ r ∈ rns s, okR r) := rns_ok s
  have hrl := rns_length s
  have HS : Hid (cnt (rns s) ≤ 126 → wtxt s = strOfNums (wideL (rns s)) ∧ werr s = 0) := wtxt_small
  have HG : Hid (126 < cnt (rns s) → wtxt s = ⟨#[]⟩ ∧ werr s = 2) := wtxt_great
  generalize rns s = rs at *
  generalize wtxt s = T at *
  generalize werr s = Z at *
  go_enter Try.func59, Try.ntmps59
  go_wp2_with fail
  refine (HRU.out _).mono ?_
  rintro e u ⟨v, rfl, ⟨a, cp, rfl, hcp, hcells⟩, hb⟩
  have HCE : Hid (rs ≠ [] → ∃ g off, a = some ⟨g, off, none⟩ ∧ g < u.heap.size ∧ ∀ j x, rs[j]? = some x → u.cell? ⟨g, off + j, none⟩ = some (.int .i64 x)) := hcells
  clear hcells HRU
  go_wp2_with fail
  go_loopw [4, 5, 11] (fun o nn i wr => ∃ (k n : Nat) (acc : ByteArray), k ≤ rs.length ∧ n ≤ 126 ∧ acc.size = 2 * n ∧ o = .string acc ∧ nn = .int .i64 (n : Int) ∧ i = .int .i64 (k : Int) ∧ Below u.heap.size u wr ∧ Hid (n + cnt (rs.drop k) = cnt rs ∧ acc ++ strOfNums (wideL (rs.drop k)) = strOfNums (wideL rs)))
    (fun _ _ i _ => rs.length - (RowKit.intOf i).toNat)
  case atStart => exact ⟨0, 0, ⟨#[]⟩, Nat.zero_le _, by omega, rfl, rfl, rfl, rfl, Below.refl _ _, by simp, by apply ByteArray.ext; simp⟩
  case round =>
    obtain ⟨k, n, acc, hk, hn, hac, rfl, rfl, rfl, hbel, HR⟩ := hrel
    by_cases hlt : k < rs.length
    · obtain ⟨g, off, rfl, hg, hcl⟩ := HCE.out (by intro h; rw [h] at hlt; simp at hlt)
      obtain ⟨c, hc⟩ : ∃ c, rs[k]? = some c := ⟨_, List.getElem?_eq_getElem hlt⟩
      have hcell := (hbel.cell (p := ⟨g, off + k, none⟩) hg).trans (hcl k c hc)
      have hok : okR c := HOK.out c (List.mem_of_getElem? hc)
      have hd : rs.drop k = c :: rs.drop (k + 1) := by
        obtain ⟨h1, h2⟩ := List.getElem?_eq_some_iff.1 hc
        rw [List.drop_eq_getElem_cons h1, h2]
      have h := HR.out
      rw [hd, cnt, wideL_cons, str_append, ← ByteArray.append_assoc] at h
      have hok' := hok
      unfold okR at hok'
      clear HR hd hcl hc
      by_cases h1 : c < 65536
      · have hw1 : wn c = 1 := by unfold wn; rw [if_pos h1]
        rw [hw1, wu_one h1] at h
        have hc0 : 0 ≤ c := by omega
        have hng : ¬ 65535 < c := by omega
        by_cases hbig : n + 1 ≤ 126
        · have HT : Hid (∀ w : World, Calls Try.prog 56 #[.int .i64 c] w fun e w' => e = .returned (.string (strOfNums [c % 256, c / 256])) ∧ Below w.heap.size w w') := fun w => twoBytes_any c hc0 (by omega) w
          have hxz : (strOfNums [c % 256, c / 256]).size = 2 := str_size _
          generalize strOfNums [c % 256, c / 256] = x at h HT hxz
          have hzz : (acc ++ x).size = acc.size + x.size := ByteArray.size_append
          have HH : Hid (n + 1 + cnt (rs.drop (k + 1)) = cnt rs ∧ (acc ++ x) ++ strOfNums (wideL (rs.drop (k + 1))) = strOfNums (wideL rs)) := ⟨by omega, h.2⟩
          have hbig' : ¬ (126 : Int) < (n : Int) + 1 := by omega
          clear h hok hok' h1 hw1 HS HG HOK
          go_wp2_with fail
          refine (HT.out _).mono ?_
          rintro e w1 ⟨rfl, hb1⟩
          go_wp2
          go_roundw
          case rel => exact ⟨k + 1, n + 1, acc ++ x, by omega, hbig, by omega, rfl, by go_num, by go_num, bsq hbel hb1, HH⟩
          case measure => simp [RowKit.intOf]; omega
        · have hG := HG.out (by omega)
          have hbig' : (126 : Int) < (n : Int) + 1 := by omega
          have HZ : Hid (T = ⟨#[]⟩ ∧ Z = 2) := hG
          clear h hok hok' h1 hw1 HS HG HOK hG hbig
          go_wp2
          go_ret2
          exact ⟨ret_si HZ.out.1.symm HZ.out.2.symm, bsq hb hbel⟩
      · have hw1 : wn c = 2 := by unfold wn; rw [if_neg h1]
        rw [hw1, wu_two h1] at h
        obtain ⟨q, rfl⟩ : ∃ q, c = q + 65536 := ⟨c - 65536, by omega⟩
        rw [show q + 65536 - 65536 = q by omega] at h
        have hq0 : 0 ≤ q := by omega
        have hq1 : q ≤ 1048575 := by omega
        have hgt : 65535 < q + 65536 := by omega
        by_cases hbig : n + 2 ≤ 126
        · have HT : Hid (∀ w : World, Calls Try.prog 56 #[.int .i64 (55296 + q / 1024)] w fun e w' => e = .returned (.string (strOfNums [(55296 + q / 1024) % 256, (55296 + q / 1024) / 256])) ∧ Below w.heap.size w w') := fun w => twoBytes_any _ (by omega) (by omega) w
          have HU : Hid (∀ w : World, Calls Try.prog 56 #[.int .i64 (56320 + q % 1024)] w fun e w' => e = .returned (.string (strOfNums [(56320 + q % 1024) % 256, (56320 + q % 1024) / 256])) ∧ Below w.heap.size w w') := fun w => twoBytes_any _ (by omega) (by omega) w
          have hsp : strOfNums [(55296 + q / 1024) % 256, (55296 + q / 1024) / 256, (56320 + q % 1024) % 256, (56320 + q % 1024) / 256] = strOfNums [(55296 + q / 1024) % 256, (55296 + q / 1024) / 256] ++ strOfNums [(56320 + q % 1024) % 256, (56320 + q % 1024) / 256] := by rw [← str_append]; rfl
          rw [hsp] at h
          clear hsp
          have hxz : (strOfNums [(55296 + q / 1024) % 256, (55296 + q / 1024) / 256]).size = 2 := str_size _
          have hyz : (strOfNums [(56320 + q % 1024) % 256, (56320 + q % 1024) / 256]).size = 2 := str_size _
          generalize strOfNums [(55296 + q / 1024) % 256, (55296 + q / 1024) / 256] = x at h HT hxz
          generalize strOfNums [(56320 + q % 1024) % 256, (56320 + q % 1024) / 256] = y at h HU hyz
          have eas : acc ++ (x ++ y) = acc ++ x ++ y := ByteArray.append_assoc.symm
          rw [eas] at h
          clear eas
          have hzz : (acc ++ x).size = acc.size + x.size := ByteArray.size_append
          have hzy : (acc ++ x ++ y).size = (acc ++ x).size + y.size := ByteArray.size_append
          have HH : Hid (n + 2 + cnt (rs.drop (k + 1)) = cnt rs ∧ (acc ++ x ++ y) ++ strOfNums (wideL (rs.drop (k + 1))) = strOfNums (wideL rs)) := ⟨by omega, h.2⟩
          have hbig' : ¬ (126 : Int) < (n : Int) + 1 + 1 := by omega
          clear h hok hok' h1 hw1 HS HG HOK
          go_wp2_with fail
          refine (HT.out _).mono ?_
          rintro e w1 ⟨rfl, hb1⟩
          go_wp2_with fail
          refine (HU.out _).mono ?_
          rintro e w2 ⟨rfl, hb2⟩
          go_wp2
          go_roundw
          case rel => exact ⟨k + 1, n + 2, acc ++ x ++ y, by omega, hbig, by omega, rfl, by go_num, by go_num, bsq (bsq hbel hb1) hb2, HH⟩
          case measure => simp [RowKit.intOf]; omega
        · have hG := HG.out (by omega)
          have hbig' : (126 : Int) < (n : Int) + 1 + 1 := by omega
          have HZ : Hid (T = ⟨#[]⟩ ∧ Z = 2) := hG
          clear h hok hok' h1 hw1 HS HG HOK hG hbig
          go_wp2
          go_ret2
          exact ⟨ret_si HZ.out.1.symm HZ.out.2.symm, bsq hb hbel⟩
    · obtain rfl : k = rs.length := by omega
      have h := HR.out
      rw [List.drop_length, cnt, wideL_nil, str_nil] at h
      have hS := HS.out (by omega)
      have HZ : Hid (acc = T ∧ 0 = Z) := ⟨by rw [hS.1, h.2], hS.2.symm⟩
      clear h hS HS HG HOK HR HCE
      go_wp2
      go_ret2
      exact ⟨ret_si HZ.out.1 HZ.out.2, bsq hb hbel⟩
end Go.Proofs.Ytebaepkghbihkaa.utf
