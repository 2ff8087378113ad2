/- DescPieces: the walk. -/
import Derived.Test.YtilfenijbbhfjaaDescB
namespace Go.Proofs.Ytilfenijbbhfjaa.descPieces
open Go.RowKit Go.PlainAid Go.Proofs.Ytilfenijbbhfjaa.lane Go.Proofs.Ytilfenijbbhfjaa.desc
set_option linter.unusedVariables false

theorem byt_of_flatten {ps : List (List Int)} {l : List Int} (h : ps.flatten = l) (hl : Byt l) : BB ps := by
  intro p hp x hx
  exact hl x (by rw [← h]; exact List.mem_flatten.2 ⟨p, hp, hx⟩)
theorem pieces_len (ps : List (List Int)) (h : ∀ p ∈ ps, piece p) : ps.length ≤ ps.flatten.length := by
  induction ps with
  | nil => simp
  | cons p r ih =>
    have h1 := (h p (by simp)).1
    have h2 := ih (fun q hq => h q (by simp [hq]))
    rw [List.flatten_cons, List.length_append, List.length_cons]; omega
theorem two_c : splC (nums ⟨#[2, 7, 3, 8, 0]⟩) = 0 := by decide +kernel
theorem two_p : (splP (nums ⟨#[2, 7, 3, 8, 0]⟩)).length = 2 := by decide +kernel
theorem piece_str {p : List Int} (h : piece p) (hb : Byt p) : 2 ≤ (strOfNums p).size ∧ bt (strOfNums p) 0 = ((strOfNums p).size : Int) := by
  have hz := str_size p
  refine ⟨by rw [hz]; exact h.1, ?_⟩
  rw [bt_nums _ 0 (by rw [hz]; have := h.1; omega), nums_str p hb, hz]
  exact h.2
set_option maxRecDepth 100000 in
set_option maxHeartbeats 2000000 in
theorem walk (a0 : ByteArray) (w0 : a0.size ≤ maxLen) (w : World) :
    Calls Try.prog 8 #[.string a0] w fun e w' => e = .returned (.bool true) ∧ Below w.heap.size w w' := by
  have HS : Hid (∀ w : World, Calls Try.prog 9 #[.string a0] w fun e w' => ∃ v, e = .returned (.tuple #[v, .int .i64 (splC (nums a0))]) ∧ Txs w' w.heap.size v (splP (nums a0)) ∧ Below w.heap.size w w') := fun w => split_any a0 w w0
  have HT : Hid (∀ w : World, Calls Try.prog 9 #[.string ⟨#[2, 7, 3, 8, 0]⟩] w fun e w' => ∃ a c, e = .returned (.tuple #[.slice a 2 c, .int .i64 0]) ∧ Below w.heap.size w w') := fun w => by
    refine (split_any ⟨#[2, 7, 3, 8, 0]⟩ w (by decide)).mono ?_
    rintro e w' ⟨v, rfl, h1, h2⟩
    obtain ⟨a, c, rfl, _, _⟩ := own_form h1
    rw [two_c, two_p]
    exact ⟨a, c, rfl, h2⟩
  by_cases hc : splC (nums a0) = 0
  · have hz : (nums a0).length ≤ 512 := by
      rcases Nat.lt_or_ge 512 (nums a0).length with q | q
      · unfold splC at hc; rw [if_pos q] at hc; cases hc
      · exact q
    have hsp : (splitL (nums a0)).1 = 0 := by unfold splC at hc; rwa [if_neg (by omega)] at hc
    have hpp : splP (nums a0) = (splitL (nums a0)).2 := by unfold splP; rw [if_neg (by omega)]
    obtain ⟨hfl, hpc⟩ := split_pieces hsp
    rw [← hpp] at hfl hpc
    have hbb := byt_of_flatten hfl (nums_byt a0)
    rw [nums_length] at hz
    rw [hc] at HS
    obtain ⟨ps, hps⟩ : ∃ ps, splP (nums a0) = ps := ⟨_, rfl⟩
    rw [hps] at HS hfl hpc hbb
    have hpl := pieces_len ps hpc
    rw [hfl, nums_length] at hpl
    have HPL : Hid (ps.length ≤ 512) := by show _ ≤ _; omega
    have HF : Hid (ps.flatten = nums a0) := hfl
    have HP : Hid (∀ p ∈ ps, piece p ∧ Byt p) := fun p hp => ⟨hpc p hp, hbb p hp⟩
    clear hc hsp hpp hfl hpc hbb hps hpl
    go_enter Try.func8, Try.ntmps8
    go_wp2_with fail
    refine (HS.out _).mono ?_
    rintro e wa ⟨v, rfl, h1, h2⟩
    have HX : Hid (Txs wa w.heap.size v ps) := h1
    have HB : Hid (Below w.heap.size w wa) := h2
    clear h1 h2 HS
    go_wp2_with fail
    refine (HT.out _).mono ?_
    rintro e wb ⟨a2, c2, rfl, h2⟩
    have HR : Hid (Rts wb v ps) := (HX.out.rts).below h2
    have HB2 : Hid (Below w.heap.size w wb) := bsq HB.out h2
    obtain ⟨a, c, rfl, hlc, hcm, hcl⟩ := HR.out.cell
    have HC : Hid (∀ j p, ps[j]? = some p → ∃ g off, a = some ⟨g, off, none⟩ ∧ wb.cell? ⟨g, off + j, none⟩ = some (.string (strOfNums p))) := hcl
    unfold maxLen at hcm
    obtain ⟨n, hn⟩ : ∃ n, ps.length = n := ⟨_, rfl⟩
    have HN : Hid (ps.length = n) := hn
    rw [hn] at hlc
    have HR2 : Hid (Rts wb (.slice a n c) ps) := by rw [← hn]; exact HR.out
    rw [hn]
    clear hcl h2 HX HB HT hn HR
    go_wp2
    go_loop [43] (fun i => ∃ k : Nat, k ≤ n ∧ i = .int .i64 (k : Int)) (fun i => n - (intOf i).toNat)
    case atStart => exact ⟨0, Nat.zero_le _, rfl⟩
    case round =>
      obtain ⟨k, hk, rfl⟩ := hrel
      by_cases hlt : k < n
      · have hk1 : k < ps.length := by have := HN.out; omega
        obtain ⟨g, off, rfl, c1⟩ := HC.out k ps[k] (List.getElem?_eq_getElem hk1)
        obtain ⟨p1, p2⟩ := HP.out ps[k] (List.getElem_mem hk1)
        obtain ⟨q1, q2⟩ := piece_str p1 p2
        generalize strOfNums ps[k] = t at c1 q1 q2
        have hbt := get_bt t
        have h0 := bt_le t 0
        rw [q2] at h0
        clear HC HP p1 p2
        go_wp2
        go_round
        case rel => exact ⟨k + 1, by omega, by go_num⟩
        case measure => simp [intOf]; omega
      · have HJ : Hid (Calls Try.prog 25 #[.slice a n c, .string ⟨#[]⟩] wb fun e w' => e = .returned (.string a0) ∧ Below wb.heap.size wb w') := by
          have := join_any (.slice a n c) ps wb HR2.out (by rw [HF.out, nums_length]; omega) (by have := HPL.out; omega)
          rw [HF.out, str_nums] at this
          exact this
        clear HC HP HR2
        go_wp2_with fail
        refine HJ.out.mono ?_
        rintro e wc ⟨rfl, h3⟩
        go_wp2
        go_ret
        exact ⟨rfl, bsq HB2.out h3⟩
  · have hne : (splC (nums a0) != 0) = true := by rw [bne_iff_ne]; exact hc
    have hpe := splP_err hc
    rw [hpe] at HS
    generalize splC (nums a0) = z at *
    clear hc hpe
    go_enter Try.func8, Try.ntmps8
    go_wp2_with fail
    refine (HS.out _).mono ?_
    rintro e wa ⟨v, rfl, h1, h2⟩
    obtain ⟨a, c, rfl, _, _⟩ := own_form h1
    have HB : Hid (Below w.heap.size w wa) := h2
    clear h1 h2 HS
    go_wp2_with fail
    refine (HT.out _).mono ?_
    rintro e wb ⟨a2, c2, rfl, h2⟩
    have HB2 : Hid (Below w.heap.size w wb) := bsq HB.out h2
    clear h2 HT
    go_wp2
    go_ret
    exact ⟨rfl, HB2.out⟩
end Go.Proofs.Ytilfenijbbhfjaa.descPieces
