/-
  The walk of the laws' first call: the examples hold. Condition: the library's variables hold what their initialisers lay.
-/
import Derived.Test.YtclfmokdjmnjcaaDoorAddrParse
namespace Go.Proofs.YtclfmokdjmnjcaaDoor
open Go.RowKit

def ex16 : List UInt8 := [32, 1, 13, 184, 0, 0, 0, 0, 0, 0, 0, 0, 0, 0, 0, 1]
def one16 : List UInt8 := [0, 0, 0, 0, 0, 0, 0, 0, 0, 0, 0, 0, 0, 0, 0, 1]
theorem ex_txt : txt ex16 = [50, 48, 48, 49, 58, 100, 98, 56, 58, 58, 49] := by decide +kernel
theorem ex_parse : parseA (ByteArray.mk #[50, 48, 48, 49, 58, 100, 98, 56, 58, 58, 49]).data.toList = some ex16 := parseA_iff.2 ⟨ex_txt, rfl⟩
theorem one_txt : tb (txt one16) = ⟨#[58, 58, 49]⟩ := by
  apply bytes_inj
  rw [tb_data, show txt one16 = [58, 58, 49] by decide +kernel]
theorem cnt_one : cntB ⟨#[97]⟩ = 1 := by
  unfold cntB
  rw [pieces_length]
  decide +kernel
theorem builtOne : Tryd.prog.built 23 [(15, .int .u8 1)] = some (bvs one16).toArray := by kernel_rfl
set_option maxRecDepth 100000 in
set_option maxHeartbeats 1000000 in
theorem fit5_e (w : World) (he : AEnv w) : Calls Tryd.prog 6 #[] w fun e w' => e = .returned (.bool true) ∧ Below w.heap.size w w' := by
  obtain ⟨Z, hZ⟩ : ∃ Z, Z = (bvs zero16).toArray := ⟨_, rfl⟩
  have zA : (Tryd.prog.info? 23).map (·.zero) = some (some (.agg Z)) := by rw [hZ]; exact zeroAddr
  obtain ⟨r, hr⟩ : ∃ r, r = (bvs ex16).toArray := ⟨_, rfl⟩
  have hS : (Tryd.prog.info? 23).map (·.size) = some r.size := by rw [hr]; exact sizeBv rfl
  have h1 : r.all (·.oneCell') = true := by rw [hr]; exact oneBv _
  have hzr : Z.size = r.size := by rw [hZ, hr]; rfl
  have hr0 : r[0]? = some (.int .u8 32) := by rw [hr]; rfl
  have hr15 : r[15]? = some (.int .u8 1) := by rw [hr]; rfl
  obtain ⟨q, hq⟩ : ∃ q, q = (bvs one16).toArray := ⟨_, rfl⟩
  have hb := builtOne
  have hprint := fun W (hW : AEnv W) => print_e one16 rfl W hW
  simp only [one_txt, ← hq] at hprint
  rw [← hq] at hb
  have hcnt := fun W (hW : AEnv W) => count_e ⟨#[97]⟩ W hW.env (by decide)
  simp only [cnt_one] at hcnt
  have hpa := parse_e (ByteArray.mk #[50, 48, 48, 49, 58, 100, 98, 56, 58, 58, 49]) w he (by decide)
  have hcells : ∀ w1 : World, (w1.alloc (.cells r 23)).cell? ⟨w1.heap.size, 0, none⟩ = some (.int .u8 32) ∧ (w1.alloc (.cells r 23)).cell? ⟨w1.heap.size, 15, none⟩ = some (.int .u8 1) := fun w1 => by
    rw [World.cell?_alloc_mark, World.cell?_alloc_mark]; exact ⟨hr0, hr15⟩
  have HE := Lib.hid he
  have ZA := Lib.hid zA
  have HS := Lib.hid hS
  have H1 := Lib.hid h1
  have HZR := Lib.hid hzr
  have HBu := Lib.hid hb
  have HP := Lib.hid hprint
  have HC := Lib.hid hcnt
  have HCe := Lib.hid hcells
  have HR := Lib.hid hr
  clear he zA hS h1 hzr hb hprint hcnt hcells hr hr0 hr15 hq hZ
  go_enter Tryd.func6, Tryd.ntmps6
  go_wp2_with fail
  refine hpa.mono ?_
  rintro e w1 ⟨hb1, h⟩
  have HB1 := Lib.hid hb1
  clear hb1 hpa
  rcases h with ⟨a, ha, hal, rfl⟩ | ⟨ha, rfl⟩
  · rw [ex_parse] at ha
    obtain rfl := Option.some.inj ha
    rw [← HR.out]
    obtain ⟨d0, d15⟩ := HCe.out w1
    have hb2 : Below w.heap.size w (w1.alloc (.cells r 23)) := HB1.out.alloc HB1.out.size _
    have HB2 := Lib.hid hb2
    have HE2 := Lib.hid (HE.out.below hb2)
    clear ha hal hb2
    go_wp2_with (first
      | (refine wpList_alloc_z rfl 23 rfl Z ZA.out ?_; go_simp)
      | (refine wpList_store_new rfl 23 (.tmp 1) (.tmp 5) rfl w1.heap.size rfl Z r 23 rfl rfl HS.out HZR.out H1.out ?_; go_simp)
      | (refine wpList_build_g 23 #[(15, .const (.int .u8 1))] rfl rfl q HBu.out ?_; go_simp))
    refine (HP.out _ HE2.out).mono ?_
    rintro e w3 ⟨rfl, hb3⟩
    have HB3 := Lib.hid (HB2.out.trans (hb3.mono HB2.out.size))
    have HE3 := Lib.hid (HE2.out.below hb3)
    clear hb3
    go_wp2_with fail
    refine (HC.out _ HE3.out).mono ?_
    rintro e w4 ⟨rfl, hb4, _⟩
    go_wp2
    go_ret
    exact ⟨rfl, HB3.out.trans (hb4.mono HB3.out.size)⟩
  · rw [ex_parse] at ha
    cases ha
end Go.Proofs.YtclfmokdjmnjcaaDoor
