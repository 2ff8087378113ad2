/- plugref: what Take answers. -/
import Derived.Test.YtifebinpjpalhaaAreP
import Derived.Test.YtifebinpjpalhaaAreR
import Derived.Test.YtifebinpjpalhaaAreX
import Derived.Test.YtifebinpjpalhaaAreK
namespace Go.Proofs.Ytifebinpjpalhaa.arena
open Go.RowKit
set_option linter.unusedVariables false
set_option linter.unusedSimpArgs false
set_option maxRecDepth 100000

/-- what is told, as far as it is read -/
def RTA (w : World) (a : Ar) (p code : Int) (e : Ending) (w' : World) : Prop :=
  ∃ v, e = .returned (.tuple #[arV a.z v, .int .i64 p, .int .i64 code]) ∧ Rss w' v a.L ∧ Below w.heap.size w w'
theorem Rss.kept {w u : World} {g n c X : Nat} {L : List Sp} (h : Rss w (.slice (some ⟨g, 0, none⟩) n c) L) (hg : g ≠ X) (hs : w.heap.size ≤ u.heap.size) (hk : ∀ k, k ≠ X → u.heap[k]? = w.heap[k]?) : Rss u (.slice (some ⟨g, 0, none⟩) n c) L := by
  obtain ⟨a', c', hv, h1, h2, h4⟩ := h
  refine ⟨a', c', hv, h1, h2, fun hn => ?_⟩
  obtain ⟨g', off, ha, hlt, hc⟩ := h4 hn
  have hgg : g = g' := by
    injection hv with e1 _ _
    rw [ha] at e1
    injection e1 with e1
    injection e1
  subst hgg
  exact ⟨g, off, ha, Nat.lt_of_lt_of_le hlt hs, fun j x hx => by
    rw [World.cell?_of_block (w := w) (a := ⟨g, off + j * 2, none⟩) (hk g hg), World.cell?_of_block (w := w) (a := ⟨g, off + j * 2 + 1, none⟩) (hk g hg)]
    exact hc j x hx⟩
theorem next_place {p q G : Int} (hG : 0 < G) (hp : p % G = 0) (hq : q % G = 0) (h1 : p < q) : p + G ≤ q := by
  have h2 : G ∣ q - p := Int.dvd_sub (Int.dvd_of_emod_eq_zero hq) (Int.dvd_of_emod_eq_zero hp)
  have h3 := Int.le_of_dvd (by omega) h2
  omega
theorem al_all (g : Int) : (als.take 13).contains g = alB g := rfl
set_option maxHeartbeats 16000000 in
theorem refTake_any (z : Int) (v : Value) (L : List Sp) (s g : Int) (w : World) (hv : Rss w v L) (hI : Inr L) :
    Calls Try.prog 16 #[arV z v, .int .i64 s, .int .i64 g] w (RTA w (tkV ⟨z, L⟩ s g) (tkP ⟨z, L⟩ s g) (tkC ⟨z, L⟩ s g)) := by
  obtain ⟨a, c, rfl, hlc, hcm⟩ := hv.form
  obtain ⟨n, hn⟩ : ∃ n, L.length = n := ⟨_, rfl⟩
  have HN : Hid (L.length = n) := hn
  rw [hn] at hv hlc ⊢
  obtain ⟨Z, hZ⟩ : ∃ Z, RTA w (tkV ⟨z, L⟩ s g) (tkP ⟨z, L⟩ s g) (tkC ⟨z, L⟩ s g) = Z := ⟨_, rfl⟩
  have HZ : Hid (RTA w (tkV ⟨z, L⟩ s g) (tkP ⟨z, L⟩ s g) (tkC ⟨z, L⟩ s g) = Z) := hZ
  have HErr : Hid (∀ (k : Int) (u : World), tkC ⟨z, L⟩ s g = k → k ≠ 0 → Below w.heap.size w u → Z (.returned (.tuple #[arV 0 (.slice none 0 0), .int .i64 0, .int .i64 k])) u) := fun k u h1 h2 h3 => by
    obtain ⟨e1, e2⟩ := tk_err (a := ⟨z, L⟩) (s := s) (g := g) (by rw [h1]; exact h2)
    rw [← hZ, e1, e2, h1]
    exact ⟨_, rfl, Rss.nil _, h3⟩
  rw [hZ]
  obtain ⟨w1, hw1, hX1, hb1⟩ := named w (arO z (.slice a n c))
  obtain ⟨w2, hw2, hX2, hb2⟩ := named w1 (arO 0 (.slice none 0 0))
  have hX12 := keep hX1 hb2
  obtain ⟨⟨hz, x0, x1⟩, _⟩ := boxC hX12
  have hR2 := hv.below (bsq hb1 hb2)
  obtain ⟨k, hk⟩ : ∃ k, chk ⟨z, L⟩ = k := ⟨_, rfl⟩
  have HK : Hid (chk ⟨z, L⟩ = k) := hk
  have HC : Hid (Calls Try.prog 11 #[arV z (.slice a n c)] w2 fun e w' => e = .returned (.int .i64 k) ∧ Below w2.heap.size w2 w') := by
    have := refArena_any z (.slice a n c) L w2 hR2 hI
    rw [hk] at this
    exact this
  have z0 : w.heap.size < w1.heap.size := (Array.getElem?_eq_some_iff.1 hX1).1
  have HW : Hid (∀ u, Below w2.heap.size w2 u → Rss u (.slice a n c) L ∧ Below w.heap.size w u ∧ u.heap[w1.heap.size]? = some (arO 0 (.slice none 0 0)) ∧ u.heap[w.heap.size]? = some (arO z (.slice a n c))) := fun u hu => ⟨hR2.below hu, bsq (bsq hb1 hb2) hu, keep hX2 hu, keep hX12 hu⟩
  have HLT : Hid (w.heap.size < w1.heap.size) := z0
  unfold maxLen at hcm
  clear hv hI hX1 hX2 hX12 hb1 hb2 hR2 hn hZ hk z0
  go_enter Try.func16, Try.ntmps16
  go_wp2_with fail
  refine HC.out.mono ?_
  rintro e u ⟨rfl, hb⟩
  have HU : Hid (Below w2.heap.size w2 u) := hb
  obtain ⟨uf, huf, hXf, hBf, _, _⟩ := put2 u w1.heap.size (.int .i64 0) (.slice none 0 0) (HW.out u hb).2.2.1
  obtain ⟨⟨hzu, r0, r1⟩, f0, f1⟩ := boxC (HW.out u hb).2.2.1
  obtain ⟨⟨hzx, d0, d1⟩, _⟩ := boxC (HW.out u hb).2.2.2
  obtain ⟨⟨hzf, y0, y1⟩, _⟩ := boxC hXf
  have HBf : Hid (Below w.heap.size w uf) := hBf _ _ (by have := HLT.out; omega) (HW.out u hb).2.1
  clear hb hXf hBf HC x0 x1 hz
  by_cases h0 : ¬ k = 0
  · have e1 : (k != 0) = true := by simpa using h0
    have HA : Hid (Z (.returned (.tuple #[arV 0 (.slice none 0 0), .int .i64 0, .int .i64 k])) uf) := HErr.out k uf (by unfold tkC; rw [HK.out, if_pos h0]) h0 HBf.out
    clear h0
    go_wp2
    try rw [huf]
    exact bodyPost_ret (v := .tuple #[arV 0 (.slice none 0 0), .int .i64 0, .int .i64 k]) (by simp [results, Try.results16, go_sem, hzf, y0, y1]) rfl HA.out
  have h0 : k = 0 := Classical.not_not.1 h0
  subst h0
  have e0 : ((0 : Int) != 0) = false := rfl
  have HT2 : Hid (∀ (j : Nat) (W : World), j < 13 → Calls Try.prog 28 #[.int .i64 (j : Int)] W fun e w' => e = .returned (.int .i64 (2 ^ j)) ∧ W = w') := fun j W hj => two_any j (by omega) W
  go_wp2
  go_loopw [10, 23] (fun pv i wr => ∃ (j : Nat) (b : Bool), j ≤ 13 ∧ i = .int .i64 (j : Int) ∧ pv = .bool b ∧ u = wr ∧ Hid ((als.take j).contains g = b)) (fun _ i _ => 13 - (intOf i).toNat)
  case atStart => exact ⟨0, false, Nat.zero_le _, rfl, rfl, rfl, rfl⟩
  case round =>
    obtain ⟨j, b, hj, rfl, rfl, rfl, HA⟩ := hrel
    by_cases hlt : j < 13
    · have HST := als_step hlt g
      rw [HA.out] at HST
      have HST2 : Hid ((als.take (j + 1)).contains g = (b || g == 2 ^ j)) := HST
      have hlt2 : decide ((j : Int) < 13) = true := by rw [decide_eq_true_eq]; omega
      cases b with
      | true =>
        have HA3 : Hid ((als.take (j + 1)).contains g = true) := HST2.out
        clear HA HST HST2
        go_wp2
        go_roundw
        case rel => exact ⟨j + 1, true, by omega, by go_num, rfl, trivial, HA3.out⟩
        case measure => simp [intOf]; omega
      | false =>
        obtain ⟨pw, hpw⟩ : ∃ q : Int, 2 ^ j = q := ⟨_, rfl⟩
        obtain ⟨bb, hbb⟩ : ∃ q, (g == pw) = q := ⟨_, rfl⟩
        have HA3 : Hid ((als.take (j + 1)).contains g = bb) := by have := HST2.out; rw [hpw, hbb, Bool.false_or] at this; exact this
        have HTj : Hid (Calls Try.prog 28 #[.int .i64 (j : Int)] u fun e w' => e = .returned (.int .i64 pw) ∧ u = w') := by have := HT2.out j u hlt; rw [hpw] at this; exact this
        clear HA HST HST2 hpw
        go_wp2_with fail
        refine HTj.out.mono ?_
        rintro e u' ⟨rfl, rfl⟩
        go_wp2
        go_roundw
        case rel => exact ⟨j + 1, bb, by omega, by go_num, rfl, trivial, HA3.out⟩
        case measure => simp [intOf]; omega
    · have hj13 : j = 13 := by omega
      subst hj13
      have HAL : Hid (alB g = b) := by have := HA.out; rw [al_all] at this; exact this
      clear HA HT2 hlt hj
      obtain ⟨bt, hbt⟩ : ∃ q, (decide (1 ≤ s) && decide (s ≤ 4096)) = q := ⟨_, rfl⟩
      have HBT : Hid ((decide (1 ≤ s) && decide (s ≤ 4096)) = bt) := hbt
      have HB : Hid (Calls Try.prog 22 #[.int .i64 s, .int .i64 1, .int .i64 4096] u fun e w' => e = .returned (.bool bt) ∧ u = w') := by
        have := between_any s 1 4096 u
        rw [hbt] at this
        exact this
      have HARG : Hid (argB s g = (bt && b)) := by show _ = _; unfold argB; rw [hbt, HAL.out]
      clear hbt
      by_cases hbb : ¬ (bt && b) = true
      · have HA : Hid (Z (.returned (.tuple #[arV 0 (.slice none 0 0), .int .i64 0, .int .i64 1])) uf) := HErr.out 1 uf (by unfold tkC; rw [if_neg (fun q => q HK.out), if_pos (by rw [HARG.out]; simpa using hbb)]) (by decide) HBf.out
        cases bt with
        | false =>
          clear hbb
          go_wp2_with fail
          refine HB.out.mono ?_
          rintro e u' ⟨rfl, rfl⟩
          go_wp2
          try rw [huf]
          exact bodyPost_ret (v := .tuple #[arV 0 (.slice none 0 0), .int .i64 0, .int .i64 1]) (by simp [results, Try.results16, go_sem, hzf, y0, y1]) rfl HA.out
        | true =>
          have hb0 : b = false := by simpa using hbb
          subst hb0
          clear hbb
          go_wp2_with fail
          refine HB.out.mono ?_
          rintro e u' ⟨rfl, rfl⟩
          go_wp2
          try rw [huf]
          exact bodyPost_ret (v := .tuple #[arV 0 (.slice none 0 0), .int .i64 0, .int .i64 1]) (by simp [results, Try.results16, go_sem, hzf, y0, y1]) rfl HA.out
      have hbb : (bt && b) = true := Classical.not_not.1 hbb
      have HAR2 : Hid (argB s g = true) := by show _ = _; rw [HARG.out]; exact hbb
      rw [Bool.and_eq_true] at hbb
      obtain ⟨rfl, rfl⟩ := hbb
      by_cases hn64 : n = 64
      · have HA : Hid (Z (.returned (.tuple #[arV 0 (.slice none 0 0), .int .i64 0, .int .i64 11])) uf) := HErr.out 11 uf (by unfold tkC; rw [if_neg (fun q => q HK.out), if_neg (by rw [HAR2.out]; decide), if_pos (by show L.length = 64; rw [HN.out]; exact hn64)]) (by decide) HBf.out
        have e3 : ((n : Int) == 64) = true := by rw [beq_iff_eq]; omega
        clear hn64
        go_wp2_with fail
        refine HB.out.mono ?_
        rintro e u' ⟨rfl, rfl⟩
        go_wp2
        try rw [huf]
        exact bodyPost_ret (v := .tuple #[arV 0 (.slice none 0 0), .int .i64 0, .int .i64 11]) (by simp [results, Try.results16, go_sem, hzf, y0, y1]) rfl HA.out
      have e3 : ((n : Int) == 64) = false := by rw [beq_eq_false_iff_ne]; omega
      have HL64 : Hid (¬ L.length = 64) := by show ¬ _; rw [HN.out]; exact hn64
      clear huf y0 y1 hzf HBf hn64 HARG HAL HBT
      obtain ⟨hz1, hz2, _, hrow⟩ := chk_ok HK.out
      simp only at hz1 hz2 hrow
      obtain ⟨hs1, hs2, hg1, hg2, hgd⟩ := arg_ok HAR2.out
      obtain ⟨N, hNz⟩ : ∃ N : Nat, z = (N : Int) := ⟨z.toNat, by omega⟩
      obtain ⟨S, hSz⟩ : ∃ S : Nat, s = (S : Int) := ⟨s.toNat, by omega⟩
      obtain ⟨G, hGz⟩ : ∃ G : Nat, g = (G : Int) := ⟨g.toNat, by omega⟩
      subst hNz hSz hGz
      have HROW : Hid (rowB (N : Int) 0 L = true) := hrow
      have hN1 : 1 ≤ N := by omega
      have hN2 : N ≤ 65536 := by omega
      have hS1 : 1 ≤ S := by omega
      have hS2 : S ≤ 4096 := by omega
      have hG1 : 1 ≤ G := by omega
      have hG2 : G ≤ 4096 := by omega
      have HTK : Hid (Calls Try.prog 12 #[arV (N : Int) (.slice a n c)] u fun e w' => ∃ B, u.heap.size ≤ B ∧ e = .returned (.slice (some ⟨B, 0, none⟩) N N) ∧ Bw w' B N (tkL N L) ∧ Below u.heap.size u w') := refTaken_any N (.slice a n c) L u (HW.out u HU.out).1 HK.out
      clear hz1 hz2 hrow hs1 hs2 hg1 hg2 hgd
      go_wp2_with fail
      refine HB.out.mono ?_
      rintro e u' ⟨rfl, rfl⟩
      go_wp2_with fail
      refine HTK.out.mono ?_
      rintro e u2 ⟨B, hB, rfl, hBw, hb2⟩
      have HU2 : Hid (Below w2.heap.size w2 u2) := bsq HU.out hb2
      have HBW : Hid (Bw u2 B N (tkL N L)) := hBw
      obtain ⟨⟨_, i0, i1⟩, _⟩ := boxC (HW.out u2 HU2.out).2.2.2
      obtain ⟨M, hM⟩ : ∃ M, N + 1 = M := ⟨_, rfl⟩
      have hMi : (N : Int) + 1 = (M : Int) := by omega
      obtain ⟨ii, hii, hzi0, hzi1, hzi2⟩ := info_parts infoI
      clear hB hBw hb2 HTK HB d0 d1 r0 r1 f0 f1 hzu hzx
      go_wp2_with
        (at_make
         refine wpList_make_full _ rfl _ _ 53 rfl u2.heap.size 3 ii (.int .i64 0) 1 Try.underlying53 hii hzi0 hzi1 _ _ _ _ M rfl rfl (by omega) (by omega) (by rw [hzi2]; omega) (by unfold maxLen; omega) (Nat.le_refl _) ?_
         intro w3 hown hgrow
         have hb3 : Below u2.heap.size u2 w3 := (Below.refl _ _).grown hgrow (Nat.le_refl _) (fun k hk => by cases hk)
         have HO : Hid (Iw w3 u2.heap.size M (rowF (tkL N L) N N) ∧ Below u2.heap.size u2 w3) := ⟨by rw [← rowF_start (tkL_length N L), hM]; exact Iw.made hown, hb3⟩
         obtain ⟨⟨_, j0, j1⟩, _⟩ := boxC (HW.out w3 (bsq HU2.out hb3)).2.2.2
         clear hown hgrow hb3)
      clear i0 i1 hii hzi0 hzi1 hzi2 j0 j1
      go_loopw [14] (fun uv wr => ∃ (m : Nat), m ≤ N ∧ uv = .int .i64 ((m : Int) - 1) ∧ Hid (Iw wr u2.heap.size M (rowF (tkL N L) N m) ∧ Below u2.heap.size u2 wr)) (fun uv _ => (intOf uv + 1).toNat)
      case atStart => exact ⟨N, Nat.le_refl _, rfl, HO.out⟩
      case round =>
        obtain ⟨m, hm, rfl, HA⟩ := hrel
        have HBr : Hid (Below w2.heap.size w2 wr) := bsq HU2.out HA.out.2
        cases m with
        | succ m =>
          have em : ((m + 1 : Nat) : Int) - 1 = (m : Int) := by omega
          rw [em]
          have em2 : decide ((m : Int) ≥ 0) = true := by rw [decide_eq_true_eq]; omega
          obtain ⟨bt, hbt⟩ : ∃ b, (tkL N L)[m]? = some b := ⟨_, tkL_at (by omega)⟩
          have cb := (HBW.out.below HA.out.2).cell hbt
          cases bt with
          | true =>
            have HA3 : Hid (Iw wr u2.heap.size M (rowF (tkL N L) N m) ∧ Below u2.heap.size u2 wr) := by have := HA.out; rw [rowF_true hbt] at this; exact this
            clear HA hbt
            go_wp2
            go_roundw
            case rel => exact ⟨m, by omega, rfl, HA3.out⟩
            case measure => simp [intOf]
          | false =>
            obtain ⟨m1, hm1⟩ : ∃ m1, m + 1 = m1 := ⟨_, rfl⟩
            have em3 : (m : Int) + 1 = (m1 : Int) := by omega
            obtain ⟨r, hr⟩ : ∃ r, rn ((tkL N L).drop (m + 1)) = r := ⟨_, rfl⟩
            have hrN : r ≤ N := by rw [← hr]; have := rn_le ((tkL N L).drop (m + 1)); rw [List.length_drop, tkL_length] at this; omega
            have cf : wr.cell? ⟨u2.heap.size, m1, none⟩ = some (.int .i64 (r : Int)) := HA.out.1.cell (by rw [← hm1, rowF_at (by omega), if_neg (by omega), hr])
            have cg : wr.cell? ⟨u2.heap.size, m, none⟩ = some (.int .i64 ((0 : Nat) : Int)) := HA.out.1.cell (by rw [rowF_at (by omega), if_pos (by omega)])
            have cfz := HA.out.1.free m
            obtain ⟨r1, hr1⟩ : ∃ r1, r + 1 = r1 := ⟨_, rfl⟩
            have er : (r : Int) + 1 = (r1 : Int) := by omega
            have hmM : m < M := by omega
            have hm1M : m1 < M := by omega
            have HA3 : Hid (Iw (wr.setCell ⟨u2.heap.size, m, none⟩ (.int .i64 (r1 : Int))) u2.heap.size M (rowF (tkL N L) N m) ∧ Below u2.heap.size u2 (wr.setCell ⟨u2.heap.size, m, none⟩ (.int .i64 (r1 : Int)))) := by
              refine ⟨?_, HA.out.2.setCell (Nat.le_refl _) _⟩
              have := HA.out.1.set m r1
              rw [← hr1, ← hr, rowF_false (by omega) hbt, hr, hr1] at this
              exact this
            clear HA hbt hr hr1 hm1
            go_wp2
            go_roundw
            case rel => exact ⟨m, by omega, rfl, HA3.out⟩
            case measure => simp [intOf]
        | zero =>
          have em : ((0 : Nat) : Int) - 1 = -1 := rfl
          rw [em]
          obtain ⟨⟨_, j0, j1⟩, _⟩ := boxC (HW.out wr HBr.out).2.2.2
          have HI4 : Hid (∀ p, p < N → wr.cell? ⟨u2.heap.size, p, none⟩ = some (.int .i64 ((rn ((tkL N L).drop p) : Nat) : Int))) := fun p hp => HA.out.1.cell (by rw [rowF_at (by omega), if_neg (by omega)])
          obtain ⟨w4, hw4⟩ : ∃ w4, wr = w4 := ⟨_, rfl⟩
          rw [hw4] at HBr j0 j1 HI4 ⊢
          clear HA hw4
          go_wp2
          go_loopw [15] (fun av wr => ∃ (p : Nat), p ≤ N + 4096 ∧ av = .int .i64 (p : Int) ∧ w4 = wr ∧ Hid ((p : Int) % (G : Int) = 0 ∧ ∀ q : Int, 0 ≤ q → q < (p : Int) → ¬ Fit (N : Int) (S : Int) (G : Int) L q)) (fun av _ => N + 5000 - (intOf av).toNat)
          case atStart => exact ⟨0, by omega, rfl, rfl, by simp, fun q h1 h2 => by omega⟩
          case round =>
            obtain ⟨p, hp, rfl, rfl, HP⟩ := hrel
            by_cases hlt : ¬ p < N
            · obtain ⟨uf, huf, hXf, hBf, _, _⟩ := put2 w4 w1.heap.size (.int .i64 0) (.slice none 0 0) (HW.out w4 HBr.out).2.2.1
              obtain ⟨⟨hzu, r0, r1⟩, f0, f1⟩ := boxC (HW.out w4 HBr.out).2.2.1
              obtain ⟨⟨hzf, y0, y1⟩, _⟩ := boxC hXf
              have HAe : Hid (Z (.returned (.tuple #[arV 0 (.slice none 0 0), .int .i64 0, .int .i64 11])) uf) := HErr.out 11 uf (tk_no (n := N) (by simp) HK.out HAR2.out HL64.out fun q h1 h2 => HP.out.2 q h1 (by omega)) (by decide) (hBf _ _ (by have := HLT.out; omega) (HW.out w4 HBr.out).2.1)
              clear hXf hBf HP
              go_wp2
              try rw [huf]
              exact bodyPost_ret (v := .tuple #[arV 0 (.slice none 0 0), .int .i64 0, .int .i64 11]) (by simp [results, Try.results16, go_sem, hzf, y0, y1]) rfl HAe.out
            have hlt : p < N := Classical.not_not.1 hlt
            obtain ⟨r, hr⟩ : ∃ r, rn ((tkL N L).drop p) = r := ⟨_, rfl⟩
            have c4 := HI4.out p hlt
            rw [hr] at c4
            have hpM : p < M := by omega
            obtain ⟨pm, hpm⟩ : ∃ q, p % 4096 = q := ⟨_, rfl⟩
            have epm : (p : Int).tmod 4096 = (pm : Int) := by rw [Int.tmod_eq_emod_of_nonneg (by omega)]; omega
            obtain ⟨sd, hsd⟩ : ∃ q, 4096 - S = q := ⟨_, rfl⟩
            have esd : (4096 : Int) - (S : Int) = (sd : Int) := by omega
            have hpm1 : pm < 4096 := by omega
            have HFIT : Hid ((S ≤ r ∧ pm ≤ sd) ↔ Fit (N : Int) (S : Int) (G : Int) L (p : Int)) := by
              have := fit_rn (z := N) (p := p) (s := S) (g := (G : Int)) HROW.out hS1 HP.out.1
              rw [hr, hpm, hsd] at this
              show _ ↔ _
              rw [← this]
              exact ⟨fun h => ⟨h.1, h.2, hS2⟩, fun h => ⟨h.1, h.2.1⟩⟩
            obtain ⟨p1, hp1⟩ : ∃ q, p + G = q := ⟨_, rfl⟩
            have ep1 : (p : Int) + (G : Int) = (p1 : Int) := by omega
            have HNX : Hid (¬ (S ≤ r ∧ pm ≤ sd) → ((p1 : Int) % (G : Int) = 0 ∧ ∀ q : Int, 0 ≤ q → q < (p1 : Int) → ¬ Fit (N : Int) (S : Int) (G : Int) L q)) := fun h => by
              refine ⟨by rw [← ep1]; exact Int.emod_eq_zero_of_dvd (Int.dvd_add (Int.dvd_of_emod_eq_zero HP.out.1) (Int.dvd_refl _)), fun q h1 h2 h3 => ?_⟩
              rcases Int.lt_or_le q (p : Int) with k | k
              · exact HP.out.2 q h1 k h3
              · rcases Int.lt_or_le (p : Int) q with k2 | k2
                · have := next_place (G := (G : Int)) (by omega) HP.out.1 h3.1 k2
                  omega
                · obtain rfl : q = (p : Int) := by omega
                  exact h (HFIT.out.2 h3)
            clear hpm hsd hr
            by_cases q1 : ¬ S ≤ r
            · have q1' : r < S := by omega
              have HNX2 : Hid ((p1 : Int) % (G : Int) = 0 ∧ ∀ q : Int, 0 ≤ q → q < (p1 : Int) → ¬ Fit (N : Int) (S : Int) (G : Int) L q) := HNX.out fun h => q1 h.1
              clear HNX HFIT HP q1
              go_wp2
              go_roundw
              case rel => exact ⟨p1, by omega, by go_num, trivial, HNX2.out⟩
              case measure => simp [intOf]; omega
            have q1 : S ≤ r := Classical.not_not.1 q1
            by_cases q2 : ¬ pm ≤ sd
            · have q2' : sd < pm := by omega
              have HNX2 : Hid ((p1 : Int) % (G : Int) = 0 ∧ ∀ q : Int, 0 ≤ q → q < (p1 : Int) → ¬ Fit (N : Int) (S : Int) (G : Int) L q) := HNX.out fun h => q2 h.2
              clear HNX HFIT HP q2
              go_wp2
              go_roundw
              case rel => exact ⟨p1, by omega, by go_num, trivial, HNX2.out⟩
              case measure => simp [intOf]; omega
            have q2 : pm ≤ sd := Classical.not_not.1 q2
            have HTC : Hid (tkC ⟨(N : Int), L⟩ (S : Int) (G : Int) = 0 ∧ tkP ⟨(N : Int), L⟩ (S : Int) (G : Int) = (p : Int)) := tk_first HK.out HAR2.out HL64.out (by omega) (HFIT.out.1 ⟨q1, q2⟩) HP.out.2
            have HCL : Hid (Calls Try.prog 29 #[.slice a n c] w4 fun e w' => ∃ v', e = .returned v' ∧ Sps w' w4.heap.size v' L ∧ Below w4.heap.size w4 w') := cloneS_any (.slice a n c) L w4 (HW.out w4 HBr.out).1 (by have := (chk_ok HK.out).2.2.1; simp only at this; omega)
            clear HNX HFIT HP
            go_wp2_with fail
            refine HCL.out.mono ?_
            rintro e u5 ⟨v5, rfl, hv5, hb5⟩
            obtain ⟨u6, hu6⟩ : ∃ u6, u5.alloc (spO (p : Int) (S : Int)) = u6 := ⟨_, rfl⟩
            have hb6 : Below u5.heap.size u5 u6 := by rw [← hu6]; exact balloc _ _
            have HS6 : Hid (Sps u6 w4.heap.size v5 L ∧ Rss u6 (.slice (some ⟨u5.heap.size, 0, none⟩) 1 1) [((p : Int), (S : Int))] ∧ Below w4.heap.size w4 u6) := ⟨hv5.below hb6, by rw [← hu6]; exact rss_laid u5 [((p : Int), (S : Int))] (by simp), bsq hb5 hb6⟩
            have HLL : Hid (L.length ≤ 64) := (chk_ok HK.out).2.2.1
            obtain ⟨va, vn, vc, rfl⟩ : ∃ a n c, v5 = .slice a n c := by obtain ⟨a, c, h, _⟩ := hv5.form; exact ⟨_, _, _, h⟩
            clear hv5 hb5 hb6 HCL c4 epm esd
            go_wp2_with
              (at_builtin
               refine wpList_sps _ rfl _ _ rfl w4.heap.size _ L rfl (by first | exact HS6.out.1 | (rw [hu6]; exact HS6.out.1)) _ [((p : Int), (S : Int))] rfl (by first | exact HS6.out.2.1 | (rw [hu6]; exact HS6.out.2.1)) (by have := HLL.out; simp; omega) (by first | exact HS6.out.2.2.size | (rw [hu6]; exact HS6.out.2.2.size)) ?_
               intro v7 u7 t1 t2 t3
               have t3' : Below w4.heap.size u6 u7 := by first | exact t3 | (rw [hu6] at t3; exact t3)
               have HS7 : Hid (Sps u7 w4.heap.size v7 (L ++ [((p : Int), (S : Int))]) ∧ Below w4.heap.size w4 u7) := ⟨t1, HS6.out.2.2.trans t3'⟩
               obtain ⟨ga, cap7, hv7, _⟩ := World.ownsRow.form t1 (by simp)
               subst hv7
               clear t1 t2 t3 t3')
            obtain ⟨n7, hn7'⟩ : ∃ q, L.length + 1 = q := ⟨_, rfl⟩
            have hn7 : (L ++ [((p : Int), (S : Int))]).length = n7 := by simpa using hn7'
            rw [hn7] at HS7
            simp only [hn7']
            have HSO : Hid (Calls Try.prog 30 #[.slice (some ⟨ga, 0, none⟩) n7 cap7, .func (.func 31) #[] #[]] u7 fun e w' => e = .returned (.tuple #[]) ∧ ∃ M, M.Perm (L ++ [((p : Int), (S : Int))]) ∧ M.Pairwise (fun x y => x.1 ≤ y.1) ∧ Rss w' (.slice (some ⟨ga, 0, none⟩) n7 cap7) M ∧ Below w4.heap.size u7 w') :=
              sort_any w4.heap.size ga n7 cap7 _ u7 HS7.out.1 hn7 (fun x hx => by
                rcases List.mem_append.1 hx with hx | hx
                · have := row_mem HROW.out hx; omega
                · obtain rfl : x = ((p : Int), (S : Int)) := by simpa using hx
                  simp only
                  omega) (by have := HLL.out; simp; omega)
            clear hn7 hn7'
            go_wp2_with fail
            refine HSO.out.mono ?_
            rintro e u8 ⟨rfl, Ms, hperm, hpw, hRs, hb8⟩
            have hb48 : Below w4.heap.size w4 u8 := HS7.out.2.trans hb8
            have hb28 : Below w2.heap.size w2 u8 := bsq HBr.out hb48
            have hga : ga ≠ w1.heap.size := by
              have h1 := own_block HS7.out.1 ga rfl
              have h2 := (Array.getElem?_eq_some_iff.1 (HW.out w4 HBr.out).2.2.1).1
              omega
            obtain ⟨uf, huf, hXf, hBf, hkf, hsf⟩ := put2 u8 w1.heap.size (.int .i64 (N : Int)) (.slice (some ⟨ga, 0, none⟩) n7 cap7) (HW.out u8 hb28).2.2.1
            have HAn : Hid (Z (.returned (.tuple #[arV (N : Int) (.slice (some ⟨ga, 0, none⟩) n7 cap7), .int .i64 (p : Int), .int .i64 0])) uf) := by
              show Z _ _
              obtain ⟨A', B', k1, k2, k3, kc, _⟩ := tk_facts HTC.out.1
              rw [HTC.out.2] at k3
              simp only at k1
              have hMs : Ms = A' ++ ((p : Int), (S : Int)) :: B' := by
                refine sorted_unique _ _ (hperm.trans ?_) hpw (row_pair _ 0 (by have := (chk_ok kc).2.2.2; rw [k3] at this; exact this))
                rw [k1]
                refine (List.perm_append_comm (l₂ := [((p : Int), (S : Int))])).trans ?_
                rw [List.singleton_append]
                exact List.perm_middle.symm
              rw [← HZ.out, HTC.out.1, HTC.out.2, k3]
              refine ⟨_, rfl, ?_, hBf _ _ (by have := HLT.out; omega) (HW.out u8 hb28).2.1⟩
              rw [hMs] at hRs
              exact hRs.kept hga (by omega) hkf
            obtain ⟨⟨hzu, r0, r1⟩, f0, f1⟩ := boxC (HW.out u8 hb28).2.2.1
            obtain ⟨⟨_, l0, l1⟩, _⟩ := boxC (HW.out u8 hb28).2.2.2
            obtain ⟨⟨hzf, y0, y1⟩, _⟩ := boxC hXf
            clear hperm hpw hRs hb8 hb48 hb28 hga hXf hBf hkf hsf HSO HS7
            go_wp2
            try rw [huf]
            exact bodyPost_ret (v := .tuple #[arV (N : Int) (.slice (some ⟨ga, 0, none⟩) n7 cap7), .int .i64 (p : Int), .int .i64 0]) (by simp [results, Try.results16, go_sem, hzf, y0, y1]) rfl HAn.out
end Go.Proofs.Ytifebinpjpalhaa.arena
