/- The walk of HandleExamples. -/
import Derived.Test.YtlkkgjkbjjifmaaDoorHandEx
import Derived.Deep.RegionHeld3
namespace Go.Proofs.YtlkkgjkbjjifmaaDoor
open Go.RowKit

theorem M10.sl_bd : ∀ s ∈ M10.sl, -9223372036854775808 ≤ s ∧ s < 9223372036854775808 := by decide
theorem M10.gl_bd : ∀ g ∈ M10.gl, g ≤ 18446744073709551615 := by decide
def M10.tl : List (List UInt8) := [[], [46], [48], [48, 46], [46, 49], [48, 46, 48], [48, 46, 49], [48, 48, 46, 49], [48, 46, 48, 49], [43, 48, 46, 49], [45, 48, 46, 49], [48, 46, 49, 46], [48, 46, 49, 46, 49], [49, 46, 49, 32], [32, 49, 46, 49], [49, 54, 51, 56, 51, 46, 49], [49, 54, 51, 56, 52, 46, 49], [49, 54, 51, 56, 51, 46, 52, 50, 57, 52, 57, 54, 55, 50, 57, 53], [49, 54, 51, 56, 51, 46, 52, 50, 57, 52, 57, 54, 55, 50, 57, 54], [49, 46, 49, 56, 52, 52, 54, 55, 52, 52, 48, 55, 51, 55, 48, 57, 53, 53, 49, 54, 49, 53], [49, 46, 49, 56, 52, 52, 54, 55, 52, 52, 48, 55, 51, 55, 48, 57, 53, 53, 49, 54, 49, 54], [49, 46, 49, 56, 52, 52, 54, 55, 52, 52, 48, 55, 51, 55, 48, 57, 53, 53, 49, 54, 49, 55], [49, 46, 57, 57, 57, 57, 57, 57, 57, 57, 57, 57, 57, 57, 57, 57, 57, 57, 57, 57, 57, 57], [49, 46, 49, 48, 48, 48, 48, 48, 48, 48, 48, 48, 48, 48, 48, 48, 48, 48, 48, 48, 48, 48, 48], [57, 57, 57, 57, 57, 57, 57, 57, 57, 57, 57, 57, 57, 57, 57, 57, 57, 57, 57, 57, 46, 49], [49, 56, 52, 52, 54, 55, 52, 52, 48, 55, 51, 55, 48, 57, 53, 53, 49, 54, 49, 55, 46, 49], [49, 48, 48, 48, 48, 48, 48, 48, 48, 48, 48, 48, 48, 48, 48, 48, 48, 48, 48, 48, 48, 46, 49], [49, 44, 49], [97, 46, 49], [49, 46, 49, 10]]
def M10.tr : List Value := M10.tl.map V.str
theorem M10.tl_bd : ∀ t ∈ M10.tl, t.length ≤ 100 := by decide
def M10.el : List Nat := [0, 65536, 1, 65536, 0, 18446744073709551615, 131072, 65537]
structure M10.Tx (w : World) (b : Nat) (W : World) : Prop where
  below : Below w.heap.size w W
  row : V.Row W (some ⟨b, 0, none⟩) M10.tr
theorem M10.Tx.on {w W W' : World} {b : Nat} (h : M10.Tx w b W) (hb : Below W.heap.size W W') : M10.Tx w b W' := ⟨h.below.trans (hb.mono h.below.size), h.row.below hb⟩
theorem M10.Tx.cell {w W : World} {b j : Nat} (h : M10.Tx w b W) {t : List UInt8} (ht : M10.tl[j]? = some t) : W.cell? ⟨b, j, none⟩ = some (.string ⟨t.toArray⟩) := by
  obtain ⟨_, _, e, _, c⟩ := h.row j (V.str t) (by unfold M10.tr; rw [List.getElem?_map, ht]; rfl)
  cases e
  rw [Nat.zero_add] at c
  exact c
set_option maxRecDepth 100000 in
set_option maxHeartbeats 4000000 in
theorem handleExamples_walk (w : World) (hp : H.Pow w.heap.size w) :
    Calls Tryd.prog 5 #[] w fun e w' => e = .returned (.bool true) ∧ Below w.heap.size w w' := by
  have HK := M10.hAw
  have HP : Hid (∀ W, Below w.heap.size w W → H.Pow W.heap.size W) := fun W hb => H.Pow.go hp hb
  clear hp
  have HM : Hid (∀ (s g : Int), (-9223372036854775808 ≤ s ∧ s < 9223372036854775808) → (0 ≤ g ∧ g ≤ 18446744073709551615) → ∀ z W, Below w.heap.size w W → Calls Tryd.prog 3 #[.int .i64 s, .int .u64 g, .int .u64 (IntKind.u64.wrap z)] W fun e w' => e = .returned (.bool true) ∧ Below W.heap.size W w') := fun s g hs hg z W hb => handleMatches_walk s g _ W hs.1 hs.2 hg.1 hg.2 (M10.wrap_bd z).1 (M10.wrap_bd z).2 (HP.out W hb)
  have HM2 : Hid (∀ (s g : Int), (-9223372036854775808 ≤ s ∧ s < 9223372036854775808) → (0 ≤ g ∧ g ≤ 18446744073709551615) → ∀ W, Below w.heap.size w W → Calls Tryd.prog 3 #[.int .i64 s, .int .u64 g, .int .u64 g] W fun e w' => e = .returned (.bool true) ∧ Below W.heap.size W w') := fun s g hs hg W hb => handleMatches_walk s g g W hs.1 hs.2 hg.1 hg.2 hg.1 hg.2 (HP.out W hb)
  go_enter Tryd.func5, Tryd.ntmps5
  go_upto_region 3 with (fail)
  have HS := Lib.hid (M10.St.new w 3 22)
  change Code.wp _ _ _ _ ((w.alloc (.cells M10.sr.toArray 3)).alloc (.cells (H.row M10.gl).toArray 22))
  generalize (w.alloc (.cells M10.sr.toArray 3)).alloc (.cells (H.row M10.gl).toArray 22) = W1 at HS ⊢
  go_wp2
  go_loopw [3] (fun i wx => ∃ a : Nat, a ≤ 11 ∧ i = .int .i64 a ∧ Hid (M10.St w w.heap.size wx)) (fun i _ => 11 - (intOf i).toNat)
  case atStart => exact ⟨0, by omega, rfl, HS.out⟩
  case round =>
    obtain ⟨a, ha, rfl, hS⟩ := hrel
    by_cases hlt : a < 11
    · have h1 : (a : Int) < 11 := by omega
      go_wp2
      go_loopw [4] (fun i wx => ∃ c : Nat, c ≤ 10 ∧ i = .int .i64 c ∧ Hid (M10.St w w.heap.size wx)) (fun i _ => 10 - (intOf i).toNat)
      case atStart => exact ⟨0, by omega, rfl, hS.out⟩
      case round =>
        obtain ⟨c, hc, rfl, hT⟩ := hrel
        clear hS
        by_cases hlc : c < 10
        · have h2 : (c : Int) < 10 := by omega
          obtain ⟨s, hs⟩ : ∃ s, M10.sl[a]? = some s := ⟨_, List.getElem?_eq_getElem (show a < M10.sl.length from hlt)⟩
          obtain ⟨g, hg⟩ : ∃ g, M10.gl[c]? = some g := ⟨_, List.getElem?_eq_getElem (show c < M10.gl.length from hlc)⟩
          obtain ⟨gi, hgi⟩ : ∃ gi : Int, (g : Int) = gi := ⟨_, rfl⟩
          have hsb := M10.sl_bd s (List.mem_of_getElem? hs)
          have hgb := M10.gl_bd g (List.mem_of_getElem? hg)
          have HC : Hid (∀ V, M10.St w w.heap.size V → V.cell? ⟨w.heap.size, a, none⟩ = some (.int .i64 s) ∧ V.cell? ⟨w.heap.size + 1, c, none⟩ = some (.int .u64 gi)) := fun V h => h.cells hs hg hgi
          have HA := Lib.hid (HM.out s gi hsb (by omega))
          have HB := Lib.hid (HM2.out s gi hsb (by omega))
          clear hs hg hgi hsb hgb
          go_upto_region 9 with (fail)
          go_cut [58] (fun t wx => t = .bool false ∧ Hid (M10.St w w.heap.size wx))
          case first =>
            go_region_held3 (fun V => V.cell? ⟨w.heap.size, a, none⟩ = some (.int .i64 s) ∧ V.cell? ⟨w.heap.size + 1, c, none⟩ = some (.int .u64 gi) ∧ M10.St w w.heap.size V)
              (first
                | exact ⟨(HC.out _ hT.out).1, (HC.out _ hT.out).2, hT.out⟩
                | exact ⟨(HC.out _ hT.out.drew).1, (HC.out _ hT.out.drew).2, hT.out.drew⟩
                | (go_split_ands; refine ⟨?_, ?_, ?_⟩ <;> with_reducible assumption))
              (first
                | (go_at_call 3; first
                   | ((with_reducible refine (HA.out _ _ hT.out.drew.below).mono ?_); rintro e w2 ⟨rfl, hb2⟩; have hT2 := hT.out.drew.on hb2; have hc2 := HC.out _ hT2)
                   | ((with_reducible refine (HB.out _ hT2.below).mono ?_); rintro e w3 ⟨rfl, hb3⟩; have hT3 := hT2.on hb3; have hc3 := HC.out _ hT3)))
            all_goals
              go_wp2_with fail
              go_meet
              case rel => exact ⟨rfl, by show M10.St _ _ _; with_reducible assumption⟩
          case rest =>
            obtain ⟨rfl, hT2⟩ := hcut
            go_wp2
            go_roundw
            case rel => exact ⟨c + 1, by omega, by go_num, hT2⟩
            case measure => simp [intOf]; omega
        · obtain rfl : c = 10 := by omega
          go_wp2
          go_roundw
          case rel => exact ⟨a + 1, by omega, by go_num, hT⟩
          case measure => simp [intOf]; omega
    · obtain rfl : a = 11 := by omega
      have hB := Lib.hid hS.out.below
      clear hS HS
      rw [show ((11 : Nat) : Int) = 11 from rfl]
      go_upto_region 12 with (fail)
      have HT : Hid (M10.Tx w wr.heap.size (wr.alloc (.cells M10.tr.toArray 9))) := ⟨hB.out.alloc hB.out.size _, M10.lit wr _ _⟩
      change Code.wp _ _ _ _ (wr.alloc (.cells M10.tr.toArray 9))
      generalize wr.alloc (.cells M10.tr.toArray 9) = W2 at HT ⊢
      generalize wr.heap.size = b at *
      have HQ : Hid (∀ (z : ByteArray), z.size ≤ 140737488351232 → ∀ W, Below w.heap.size w W → Calls Tryd.prog 4 #[.string z] W fun e w' => e = .returned (.bool true) ∧ Below W.heap.size W w') := fun z hz W hb => handleParses_walk z W hz (HP.out W hb)
      have HS0 : Hid (∀ W, Below w.heap.size w W → Calls Tryd.prog 24 #[.slice none 0 0] W fun e w' => e = .returned (.bool true) ∧ Below W.heap.size W w') := fun W hb => handleSorts_walk none 0 [] W (fun i x hx => by simp [H.row] at hx) (fun _ => rfl) (by simp) (by simp) (fun x hx => by simp at hx) (HP.out W hb)
      have HS8 : Hid (∀ b W, Below w.heap.size w W → V.Row W (some ⟨b, 0, none⟩) (H.row M10.el) → Calls Tryd.prog 24 #[.slice (some ⟨b, 0, none⟩) 8 8] W fun e w' => e = .returned (.bool true) ∧ Below W.heap.size W w') := fun b W hb hr => handleSorts_walk _ 8 M10.el W hr (fun h => nomatch h) (by decide) (by decide) (by decide) (HP.out W hb)
      clear HM HM2 hB
      go_wp2
      go_loopw [6] (fun i wx => ∃ c : Nat, c ≤ 30 ∧ i = .int .i64 c ∧ Hid (M10.Tx w b wx)) (fun i _ => 30 - (intOf i).toNat)
      case atStart => exact ⟨0, by omega, rfl, HT.out⟩
      case round =>
        obtain ⟨c, hc, rfl, hT⟩ := hrel
        clear HT
        by_cases hlc : c < 30
        · have h2 : (c : Int) < 30 := by omega
          obtain ⟨t, ht⟩ : ∃ t, M10.tl[c]? = some t := ⟨_, List.getElem?_eq_getElem (show c < M10.tl.length from hlc)⟩
          have htb := M10.tl_bd t (List.mem_of_getElem? ht)
          have c0 := hT.out.cell ht
          have HA := Lib.hid (HQ.out ⟨t.toArray⟩ (by rw [D.size_l]; omega))
          clear ht htb
          go_wp2_with fail
          refine (HA.out _ hT.out.below).mono ?_
          rintro e w2 ⟨rfl, hb2⟩
          have hT2 := Lib.hid (hT.out.on hb2)
          clear hb2 hT c0 HA
          go_wp2
          go_roundw
          case rel => exact ⟨c + 1, by omega, by go_num, hT2⟩
          case measure => simp [intOf]; omega
        · obtain rfl : c = 30 := by omega
          have hB := Lib.hid hT.out.below
          clear hT HQ
          go_wp2_with fail
          refine (HS0.out _ hB.out).mono ?_
          rintro e w2 ⟨rfl, hb2⟩
          have hB2 := Lib.hid (hB.out.trans (hb2.mono hB.out.size))
          clear hb2 hB HS0
          go_wp2_with fail
          have hB3 : Hid (Below w.heap.size w (w2.alloc (.cells (H.row M10.el).toArray 23))) := hB2.out.alloc hB2.out.size _
          have hR3 := Lib.hid (M10.row_lit w2 M10.el)
          change Calls _ _ _ (w2.alloc (.cells (H.row M10.el).toArray 23)) _
          generalize w2.alloc (.cells (H.row M10.el).toArray 23) = W3 at hB3 hR3 ⊢
          refine (HS8.out _ _ hB3.out hR3.out).mono ?_
          rintro e w4 ⟨rfl, hb2⟩
          have hB4 := Lib.hid (hB3.out.trans (hb2.mono hB3.out.size))
          clear hb2 hB3 HS8 hR3
          go_wp2_with fail
          refine (HK.out _ (HP.out _ hB4.out)).mono ?_
          rintro e w5 ⟨rfl, hb2⟩
          have hB5 := Lib.hid (hB4.out.trans (hb2.mono hB4.out.size))
          clear hb2
          go_wp2
          go_ret
          exact ⟨rfl, hB5.out⟩
end Go.Proofs.YtlkkgjkbjjifmaaDoor
