/- spec.SameState and impl.SameState give the same, by one symbol of the walk. No condition. -/
import Derived.Test.YtapinopfminmiabOt
import Derived.Test.YtapinopfminmiabOe
import Derived.Test.YtapinopfminmiabAn
import Derived.Test.YtapinopfminmiabYo
namespace Go.Proofs.Ytapinopfminmiab.oSst
open Go Go.RowKit
set_option linter.unusedVariables false

abbrev eS : Opq := { f := 18, sym := 10, args := [.agg [.f .f32, .f .f32, .f .f32, .f .f32, .f .f32, .f .f32, .f .f32, .f .f32, .f .f32, .f .f32, .f .f32, .f .f32, .f .f32, .f .f32, .f .f32, .f .f32, .f .f32, .f .f32, .f .f32, .f .f32, .f .f32, .f .f32, .f .f32, .f .f32, .f .f32, .f .f32, .f .f32, .f .f32, .f .f32, .f .f32, .f .f32, .f .f32, .f .f32, .f .f32, .f .f32, .f .f32, .f .f32, .f .f32, .f .f32, .f .f32, .f .f32, .f .f32], .agg [.f .f32, .f .f32, .f .f32, .f .f32, .f .f32, .f .f32, .f .f32, .f .f32, .f .f32, .f .f32, .f .f32, .f .f32, .f .f32, .f .f32, .f .f32, .f .f32, .f .f32, .f .f32, .f .f32, .f .f32, .f .f32, .f .f32, .f .f32, .f .f32, .f .f32, .f .f32, .f .f32, .f .f32, .f .f32, .f .f32, .f .f32, .f .f32, .f .f32, .f .f32, .f .f32, .f .f32, .f .f32, .f .f32, .f .f32, .f .f32, .f .f32, .f .f32]], res := .p (.one .b) }
abbrev eI : Opq := { f := 19, sym := 10, args := [.agg [.f .f32, .f .f32, .f .f32, .f .f32, .f .f32, .f .f32, .f .f32, .f .f32, .f .f32, .f .f32, .f .f32, .f .f32, .f .f32, .f .f32, .f .f32, .f .f32, .f .f32, .f .f32, .f .f32, .f .f32, .f .f32, .f .f32, .f .f32, .f .f32, .f .f32, .f .f32, .f .f32, .f .f32, .f .f32, .f .f32, .f .f32, .f .f32, .f .f32, .f .f32, .f .f32, .f .f32, .f .f32, .f .f32, .f .f32, .f .f32, .f .f32, .f .f32], .agg [.f .f32, .f .f32, .f .f32, .f .f32, .f .f32, .f .f32, .f .f32, .f .f32, .f .f32, .f .f32, .f .f32, .f .f32, .f .f32, .f .f32, .f .f32, .f .f32, .f .f32, .f .f32, .f .f32, .f .f32, .f .f32, .f .f32, .f .f32, .f .f32, .f .f32, .f .f32, .f .f32, .f .f32, .f .f32, .f .f32, .f .f32, .f .f32, .f .f32, .f .f32, .f .f32, .f .f32, .f .f32, .f .f32, .f .f32, .f .f32, .f .f32, .f .f32]], res := .p (.one .b) }
noncomputable def wS : DT (SV × St) := walkOf tb ftab otb eS.f eS.args
noncomputable def wI : DT (SV × St) := walkOf tb ftab otb eI.f eI.args
noncomputable def ns : List Df := wI.gather (wS.gather [])
theorem wf : wfT (withIds ns) [] = true := by kernel_rfl
theorem chS : wS.chkF ns [] [] (fun x => okR eS.res x.1) [] = true := by kernel_rfl
theorem chI : wI.chkF ns [] [] (fun x => okR eI.res x.1) [] = true := by kernel_rfl
/-- The bits of both, whether they are equal, whether both are the same. -/
abbrev tab : List (Nat × Nat × Nat × Nat × Nat) := [(0, 1372446385042385705, 682179180573785484, 1902430002394165861, 2270374499503883001), (1, 642298139226989912, 2257873943972083726, 1854233423020304141, 1656104198543420998), (2, 2217992902625288072, 1527725698156688019, 80418090482582138, 1192606209713712269), (3, 1487844656809892283, 797577452341292314, 2067689751673561253, 1527237414320665181), (4, 757696410994496496, 67429206525896611, 447539957307411327, 1239045631626906275), (5, 27548165179100711, 1643123969924194861, 1753485315329999327, 1450455637279168168), (6, 1603242928577398879, 912975724108799162, 424956036804362697, 1215583144880901651), (7, 873094682762003098, 182827478293403465, 2233526665153364604, 2131920824419663591), (8, 142946436946607319, 1758522241691701721, 1150873739586965000, 1422809274626035078), (9, 1718641200344905493, 1028373995876306028, 597319542174067929, 1160809059828397229), (10, 988492954529509718, 298225750060910337, 1829472057742563562, 1350171682311849335), (11, 258344708714113945, 1873920513459208599, 2275498407226585372, 2232682591531902812), (12, 1834039472112412125, 1143772267643812912, 655899483129440318, 1981818174900787250), (13, 1103891226297016356, 413624021828417227, 1262158149666598482, 1314431776214838315), (14, 373742980481620589, 1989318785226715495, 688451985621669276, 1184910686440803798), (15, 1949437743879918775, 1259170539411319814, 409730439827650539, 479333134502149664), (16, 1219289498064523012, 529022293595924135, 1123612571388683183, 627154305706447954), (17, 489141252249127251, 2104717056994222409, 1789199466277985103, 989520323317988883), (18, 2064836015647425443, 1374568811178826734, 1077812972920321082, 1165111257771474791), (19, 1334687769832029686, 644420565363431061, 1402706060904375850, 990141126672020143), (20, 604539524016633931, 2220115328761729341, 2005922704011550227, 538357894795151529), (21, 2180234287414932129, 1489967082946333672, 8477970062732071, 121043474086807664), (22, 1450086041599536378, 759818837130938005, 29475578698358621, 287013723663339388), (23, 719937795784140629, 29670591315542340, 844168711538687988, 1822618449811509666), (24, 2295632559182438833, 1605365354713840628, 1484136806332720456, 1140055387561105686), (25, 1565484313367043088, 875217108898444967, 153651442616708202, 1806585246753408614), (26, 835336067551647345, 145068863083049308, 987669244572999639, 709473656759029888), (27, 105187821736251604, 1720763626481347602, 12063204043095994, 1891049221760074924), (28, 1680882585134549816, 990615380665951947, 211556792237708544, 407802456254285459), (29, 950734339319154079, 260467134850556294, 1994080466393693615, 777129858764591159), (30, 220586093503758344, 1836161898248854594, 802652170857735113, 836432847343251962), (31, 1796280856902056562, 1106013652433458945, 713643992263021323, 966489796426633882), (32, 1066132611086660831, 375865406618063298, 2277941578087212267, 1785613027621515058), (33, 335984365271265102, 1951560170016361604, 1406355893468904723, 1843805800491391803), (34, 1911679128669563326, 1221411924200965961, 1659192405277709219, 2234448330983866506), (35, 1181530882854167601, 491263678385570320, 940899268909878675, 1982611773003259730), (36, 451382637038771878, 2066958441783868632, 1368941095725114981, 350901227624304163), (37, 2027077400437070108, 1336810195968472995, 1304358172029432187, 1451141761519532520), (38, 1296929154621674389, 606661950153077360, 158794938456783939, 409320351677113837), (39, 566780908806278672, 2182356713551375678, 622112006651600252, 1812329959110405079), (40, 2142475672204576908, 1452208467735980047, 18415670118777041, 1261225455148399532), (41, 1412327426389181195, 722060221920584418, 1843860675063775475, 1512124685931584460)]
def aN : Nat := 1689537667366724103
abbrev sL : List Nat := [2270374499503883001, 1656104198543420998, 1192606209713712269, 1527237414320665181, 1239045631626906275, 1450455637279168168, 1215583144880901651, 2131920824419663591, 1422809274626035078, 1160809059828397229, 1350171682311849335, 2232682591531902812, 1981818174900787250, 1314431776214838315, 1184910686440803798, 479333134502149664, 627154305706447954, 989520323317988883, 1165111257771474791, 990141126672020143, 538357894795151529, 121043474086807664, 287013723663339388, 1822618449811509666, 1140055387561105686, 1806585246753408614, 709473656759029888, 1891049221760074924, 407802456254285459, 777129858764591159, 836432847343251962, 966489796426633882, 1785613027621515058, 1843805800491391803, 2234448330983866506, 1982611773003259730, 350901227624304163, 1451141761519532520, 409320351677113837, 1812329959110405079, 1261225455148399532, 1512124685931584460]
abbrev eL : List Nat := [1902430002394165861, 1854233423020304141, 80418090482582138, 2067689751673561253, 447539957307411327, 1753485315329999327, 424956036804362697, 2233526665153364604, 1150873739586965000, 597319542174067929, 1829472057742563562, 2275498407226585372, 655899483129440318, 1262158149666598482, 688451985621669276, 409730439827650539, 1123612571388683183, 1789199466277985103, 1077812972920321082, 1402706060904375850, 2005922704011550227, 8477970062732071, 29475578698358621, 844168711538687988, 1484136806332720456, 153651442616708202, 987669244572999639, 12063204043095994, 211556792237708544, 1994080466393693615, 802652170857735113, 713643992263021323, 2277941578087212267, 1406355893468904723, 1659192405277709219, 940899268909878675, 1368941095725114981, 1304358172029432187, 158794938456783939, 622112006651600252, 18415670118777041, 1843860675063775475]
theorem hasE : (tab.all fun x => memD ⟨20, 448, [x.1]⟩ ns && (memD ⟨20, 448, [42 + x.1]⟩ ns && (memD ⟨21, 0, [x.2.1, x.2.2.1]⟩ ns && (memD ⟨20, 384, [x.1, 42 + x.1]⟩ ns && (Nat.beq (Df.id ⟨20, 448, [x.1]⟩) x.2.1 && (Nat.beq (Df.id ⟨20, 448, [42 + x.1]⟩) x.2.2.1 && (Nat.beq (Df.id ⟨21, 0, [x.2.1, x.2.2.1]⟩) x.2.2.2.1 && (Nat.beq (Df.id ⟨20, 384, [x.1, 42 + x.1]⟩) x.2.2.2.2 && Nat.blt x.1 42)))))))) = true := by kernel_rfl
theorem hasA : (memD ⟨22, 0, eL⟩ ns && Nat.beq (Df.id ⟨22, 0, eL⟩) aN) = true := by kernel_rfl
theorem sIs : sL = tab.map (·.2.2.2.2) := rfl
theorem eIs : eL = tab.map (·.2.2.2.1) := rfl
theorem andS : isAnd sL [] wS = true := by kernel_rfl
theorem nodeI : isNode aN wI = true := by kernel_rfl

noncomputable def g (ins : List NV) : List NV := gives baseΦ ns wS eS.res ins
noncomputable def Φ : Syms := ext baseΦ 10 g

theorem can_all {vs : List Value} {ins : List NV} (h : ShMs eS.args vs ins) : ∀ n c, (ins.getD n (.i 0)).gf = some c → (FloatKind.f32.decode c).isNaN = false := by
  match vs, h with
  | [v1, v2], ⟨n1, n2, he, ⟨c1, _, k1⟩, n3, n4, he2, ⟨c2, _, k2⟩, h4⟩ =>
    have h4 : n4 = [] := h4
    subst h4 he2 he
    rw [List.append_nil]
    exact ins_can (KMs_append k1 k2) (by simp)

theorem es {ins : List NV} (hc : ∀ n c, (ins.getD n (.i 0)).gf = some c → (FloatKind.f32.decode c).isNaN = false) : ∀ x ∈ tab, (envI baseΦ ns ins x.2.2.2.1).gb = (envI baseΦ ns ins x.2.2.2.2).gb := by
  intro x hx
  have hi : ∀ n, n < 1000 → envI baseΦ ns ins n = ins.getD n (.i 0) := fun n hn => envT_ins baseΦ (insOf ins) ns n hn
  have h := List.all_eq_true.1 hasE x hx
  simp only [Bool.and_eq_true] at h
  obtain ⟨m1, m2, m3, m4, i1, i2, i3, i4, hlt⟩ := h
  have hlt' : x.1 < 42 := by simpa using hlt
  have n1 : envI baseΦ ns ins x.2.1 = .i (((envI baseΦ ns ins x.1).gf.getD 2143289344 : Nat)) := by
    rw [← Nat.eq_of_beq_eq_true i1]
    exact (envI_ok wf ins _ (memD_mem m1)).trans (baseΦ_ok 7 0 _ (by decide) (by decide))
  have n2 : envI baseΦ ns ins x.2.2.1 = .i (((envI baseΦ ns ins (42 + x.1)).gf.getD 2143289344 : Nat)) := by
    rw [← Nat.eq_of_beq_eq_true i2]
    exact (envI_ok wf ins _ (memD_mem m2)).trans (baseΦ_ok 7 0 _ (by decide) (by decide))
  have n3 : envI baseΦ ns ins x.2.2.2.1 = .b ((envI baseΦ ns ins x.2.1).gi == (envI baseΦ ns ins x.2.2.1).gi) := by
    rw [← Nat.eq_of_beq_eq_true i3]
    exact envI_ok wf ins _ (memD_mem m3)
  have n4 : envI baseΦ ns ins x.2.2.2.2 = .b ((envI baseΦ ns ins x.1).gf == (envI baseΦ ns ins (42 + x.1)).gf) := by
    rw [← Nat.eq_of_beq_eq_true i4]
    exact (envI_ok wf ins _ (memD_mem m4)).trans (baseΦ_ok 6 0 _ (by decide) (by decide))
  rw [n3, n4, n1, n2]
  have k1 : ∀ c, (envI baseΦ ns ins x.1).gf = some c → (FloatKind.f32.decode c).isNaN = false := fun c h => by
    rw [hi _ (by omega)] at h
    exact hc _ c h
  have k2 : ∀ c, (envI baseΦ ns ins (42 + x.1)).gf = some c → (FloatKind.f32.decode c).isNaN = false := fun c h => by
    rw [hi _ (by omega)] at h
    exact hc _ c h
  exact bits_same k1 k2

theorem gives_is {ins : List NV} (hc : ∀ n c, (ins.getD n (.i 0)).gf = some c → (FloatKind.f32.decode c).isNaN = false) : gives baseΦ ns wI eI.res ins = g ins := by
  have hh := hasA
  simp only [Bool.and_eq_true] at hh
  have hS := isAnd_ok (ρ := envI baseΦ ns ins) wS [] (fun f hf => by simp at hf) andS
  have hI := isNode_ok (ρ := envI baseΦ ns ins) wI nodeI
  have na : envI baseΦ ns ins aN = .b (eL.all fun n => (envI baseΦ ns ins n).gb) := by
    rw [← Nat.eq_of_beq_eq_true hh.2]
    exact envI_ok wf ins _ (memD_mem hh.1)
  have e1 : gives baseΦ ns wI eI.res ins = [.b (envI baseΦ ns ins aN).gb] := gives_of hI
  have e2 : g ins = [.b (sL.all fun n => (envI baseΦ ns ins n).gb)] := gives_of hS
  rw [e1, e2, na]
  show [NV.b (eL.all fun n => (envI baseΦ ns ins n).gb)] = _
  congr 2
  rw [sIs, eIs, List.all_map, List.all_map, Bool.eq_iff_iff, List.all_eq_true, List.all_eq_true]
  refine forall_congr' fun x => forall_congr' fun hx => ?_
  show (envI baseΦ ns ins x.2.2.2.1).gb = true ↔ (envI baseΦ ns ins x.2.2.2.2).gb = true
  rw [es hc x hx]

theorem okS : OpqOK Try.prog Φ eS := opq_walk tb_ok mixed ftab_ok (otb_ok baseΦ_ok) rfl rfl wf chS (by kernel_rfl) (by kernel_rfl) (by kernel_rfl) (fun vs ins _ q hq => by simp at hq) (fun vs ins _ l hl => by simp at hl) fun _ _ _ => rfl
theorem okI : OpqOK Try.prog Φ eI := opq_walk tb_ok mixed ftab_ok (otb_ok baseΦ_ok) rfl rfl wf chI (by kernel_rfl) (by kernel_rfl) (by kernel_rfl) (fun vs ins _ q hq => by simp at hq) (fun vs ins _ l hl => by simp at hl) fun vs ins hv => gives_is (can_all hv)
noncomputable def ot : OTab := eS :: eI :: otb
theorem ok : ∀ e ∈ ot, OpqOK Try.prog Φ e := by
  intro e he
  rcases List.mem_cons.1 he with rfl | he
  · exact okS
  · rcases List.mem_cons.1 he with rfl | he
    · exact okI
    · exact tab_old (by kernel_rfl) (otb_ok baseΦ_ok) e he
theorem base : Base Φ := ext_base 10 g (by rfl) baseΦ_ok
end Go.Proofs.Ytapinopfminmiab.oSst
