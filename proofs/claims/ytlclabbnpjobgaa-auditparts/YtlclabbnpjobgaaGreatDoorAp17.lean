/- The document's digests (rootcellarref03), and Entry of both, as contracts. -/
import Derived.Test.YtlclabbnpjobgaaGreatDoorAp16
namespace Go.Proofs.YtlclabbnpjobgaaGreatDoor
variable {cs:Lz}
variable {fr pend:List Nat}
variable {fuel g gs i n room:Nat}
variable {mk:Bool}
variable {v vf vp:Value}
variable {w w':World}
set_option maxHeartbeats 2000000
set_option maxRecDepth 20000
open Go.RowKit
theorem Zil (K:Lq) (v:Value) (zs:Lq) (w:World) (hk:K.length=32) (bk:Bytes K) (h:Reads w v zs) (hL:Laid w) (hl:zs.length≤1024):Kc 163 #[.agg (B K),v] w fun e w'=>e=.returned (.tuple #[.agg (B (dig (1::(K++dig (3::zs))))),.int .i64 0])∧Kb w w':=by
 obtain ⟨D,hD⟩:∃D,D=dig (1::(K++dig (3::zs))):=⟨_,rfl⟩;obtain ⟨E,hE⟩:∃E,E=dig (3::zs):=⟨_,rfl⟩;have HD:=Za hD;have HSZ:Hid ((B D).size=32):=by rw [Zn,hD];exact Zad _
 have HKZ:Hid ((B K).size=32):=by rw [Zn];exact hk
 have HV:Hid (Kr w 116 #[v] (.agg (B E))):=by
  intro w' hw';rw [hE];exact Zsn v zs w' (h.grow hw') (hL.grow hw') (by omega)
 have HF:Hid (Kr w 121 #[.agg (B K),.agg (B E)] (.agg (B D))):=by
  intro w' hw';rw [hD,← hE];exact Yag K E w' hk (by rw [hE];exact Zad _) bk (by rw [hE];exact Zbj _) (hL.grow hw')
 rw [← hD];obtain ⟨va,vc,rfl,_,_,_,_⟩:=h;have hgt: ¬(1024:Int)<(zs.length:Int):=by omega
 generalize zs.length=n at *;clear hD hE hk bk;go_enter Tryz.func163,Tryz.ntmps163
 go_wp2_with (first
  |(refine Zd _ rfl _ _ rfl _ rfl ?_;intro w1 g1 hg1 hl1 B1 b1)
  |(refine Zh _ rfl _ rfl _ Zba ?_;intro w2 g2 hg2 hl2 B2 b2))
 have c2:=b1.trans (b2.mono b1.size);have HB1:=Za (B1.grow b2);have HB2:=Za B2;have hd2:Kb w2 w2.drew:=(Below.refl _ _).drew;have hiK:(Tryz.prog.info? 48).map (·.size)=some (B K).toList.length:=by rw [Array.length_toList,HKZ.out];kernel_rfl
 clear B1 B2;refine wp_region_held_drew (S:=fun w'=>w'.rangeAt g1 0 (B K).toList) (by kernel_rfl) ((HB1.out.grow hd2).range) (fun hHeld=>?_);refine tkg 0 (.agg (B K)) rfl (yieldsIf_load_mid rfl 48 (.tmp 2) rfl g1 0 rfl (B K).toList _ (fun w hS=>hS) Tryz.underlying48 rfl hiK) hHeld ?_;simp only [zq];refine tkp 1 (.slice va n vc) hHeld ?_;simp only [zq];refine wpAnyH_ready (rs:=[2]) (by kernel_rfl) (by simp) ?_;refine AllReadyH.cons rfl (fun K1 hK=>?_) AllReadyH.nil;go_simp;refine (HV.out _ (Zb c2 hd2)).mono ?_;rintro e w3 ⟨rfl,b3⟩;have hd3:=Zb hd2 b3;refine hK.out _ _ ((HB1.out.grow hd3).range) (fun hHeld=>?_);clear hK K1;refine wpAnyH_ready (rs:=[3]) (by kernel_rfl) (by simp) ?_;refine AllReadyH.cons rfl (fun K1 hK=>?_) AllReadyH.nil;go_simp;refine (HF.out _ (Zb c2 hd3)).mono ?_;rintro e w4 ⟨rfl,b4⟩;have hd4:=Zb hd3 b4;refine hK.out _ _ ((HB1.out.grow hd4).range) (fun hHeld=>?_);clear hK K1;have B4:=HB2.out.grow hd4;refine wpAnyH_ready (rs:=[4]) (by kernel_rfl) (by simp) ?_;refine AllReadyH.cons rfl (fun K1 hK=>?_) AllReadyH.nil;refine Zcs _ rfl _ _ _ rfl g2 _ (B D) rfl rfl B4 (by rw [HSZ.out];exact Zt) (by rw [HSZ.out,Zn];simp) (Zbt _) ?_;intro w5 B5 g5;refine hK.out _ _ (((HB1.out.grow hd4).kept g5 (by omega)).range) (fun hHeld=>?_);clear hK K1;refine tkp 5 (.int .i64 0) hHeld ?_;simp only [zq];refine wpAnyH_done (by kernel_rfl) ?_ _
 go_wp2_with fail
 exact bodyPost_ret (v:=.tuple #[.agg (B D),.int .i64 0]) (Zbg rfl _ _ g2 _ _ _ _ rfl rfl B5 Tryz.underlying43 (by rw [HSZ.out];exact Zt)) rfl ⟨rfl,Ze (Zb c2 hd4) g5 (Nat.le_trans b1.size hg2)⟩
structure Vw (w:World) (v:Value) (mk:Bool) (ct:Int→Nat) (ca:Int→Ce):Prop where
 made:∀w',Kb w w'→Kc 30 #[v] w' fun e w''=>e=.returned (.bool mk)∧w''=w'
 atv:∀w' h,Kb w w'→Kc 80 #[v,.int .i64 h] w' fun e w''=>e=.returned (.agg (cz (ca h)).toArray)∧Below w'.heap.size w' w''
 count:∀w' h,Kb w w'→Kc 32 #[v,.int .i64 h] w' fun e w''=>e=.returned (.int .i64 (ct h:Int))∧w''=w'
 ok:∀h,CeOk (ca h)
 val:∀h,Reads w (ca h).val (ca h).bs
 len:∀h,(ca h).bs.length≤1024
 le:∀h,(ca h).ab≤ct h∧ct h≤1073741824
theorem Vw.grow {ct:Int→Nat} {ca:Int→Ce} (V:Vw w v mk ct ca) (hb:Kb w w'):Vw w' v mk ct ca:=
 ⟨fun w'' h=>V.made w'' (Zb hb h),fun w'' x h=>V.atv w'' x (Zb hb h),fun w'' x h=>V.count w'' x (Zb hb h),V.ok,fun h=>(V.val h).grow hb,V.len,V.le⟩
theorem Zww (s:Stm w g gs vp vf room cs fr) (h:Int):Kc 32 #[.pointer (some ⟨g,0,none⟩),.int .i64 h] w fun e w'=>e=.returned (.int .i64 (cot cs h:Int))∧w'=w:=by
 have c0:=s.c0;have c1:=s.c1;have HC:=Za (Zwv s h);generalize cot cs h=q at HC ⊢;clear s;go_enter Tryz.func32,Tryz.ntmps32
 go_wp2_with (first
  |(go_at_call 30;refine (Zax g _ c0).mono ?_;rintro e w' ⟨rfl,hx⟩;rw [hx];clear hx w')
  |(go_at_call 68;refine HC.out.mono ?_;rintro e w' ⟨rfl,hx⟩;rw [hx];clear hx w'))
 go_ret;exact ⟨rfl,rfl⟩
theorem Wf.bsLen (w:Wf cs pend) (h:Int):(cat cs h).bs.length≤1024:=by
 by_cases hc:cot cs h=0
 ·rw [w.cat0 hc];decide
 ·obtain ⟨i,h1,h2,h3,h4⟩:=Zel (cs:=cs) (h:=h) (by omega);rw [h4];rcases w.tr i h2 with hl | hn
  ·exact hl.len
  ·rw [hn.bs];decide
theorem Zjt (s:Stm w g gs vp vf room cs fr) (hw:Wf cs pend):Vw w (.pointer (some ⟨g,0,none⟩)) true (cot cs) (cat cs):=by
 refine ⟨fun w' hb=>Zax g w' (s.grow hb).c0,fun w' h hb=>Yid (s.grow hb) hw h,fun w' h hb=>Zww (s.grow hb) h,hw.catOk,fun h=>?_,hw.bsLen,fun h=>?_⟩
 ·unfold cat;split
  ·obtain ⟨sp,ho⟩:=s.vals (h-1).toNat;exact ho.reads
  ·exact Reads.nil _
 ·unfold cat cot;split
  ·have h1:=hw.le (h-1).toNat;have h2:=s.sl.inv.most (h-1).toNat;rw [Zae] at h2;omega
  ·exact ⟨by decide,by decide⟩
theorem Zkq {ct:Int→Nat} {ca:Int→Ce} (V:Vw w v mk ct ca) (h:Int):Kc 42 #[v,.int .i64 h] w fun e w'=>e=.returned (.int .u8 (ca h).kind)∧Kb w w':=by
 have HA:=Za (V.atv w h (Below.refl _ _));have hf:=Yaz (ca h) (V.ok h);obtain ⟨c,hc⟩:∃c,c=ca h:=⟨_,rfl⟩;rw [← hc] at HA hf;rw [← hc];clear hc V;go_enter Tryz.func42,Tryz.ntmps42
 go_wp2_with (go_at_call 80;refine HA.out.mono ?_;rintro e w1 ⟨rfl,b1⟩)
 go_ret;exact ⟨rfl,b1⟩
theorem Zhf {ct:Int→Nat} {ca:Int→Ce} (V:Vw w v mk ct ca) (h:Int):Kc 91 #[v,.int .i64 h] w fun e w'=>e=.returned (.int .i64 ((ct h-(ca h).ab:Nat):Int))∧Kb w w':=by
 have HA:=Za (V.atv w h (Below.refl _ _));have HC:=Za (V.count w h (Below.refl _ _));have hf:=Yhn (ca h) (V.ok h);obtain ⟨h1,h2⟩:=V.le h;obtain ⟨q,hq⟩:∃q,q=ct h:=⟨_,rfl⟩;rw [← hq] at HC h1 h2;rw [← hq];obtain ⟨c,hc⟩:∃c,c=ca h:=⟨_,rfl⟩;rw [← hc] at HA hf h1;rw [← hc];have HW:Hid (wrap64 ((q:Int)-(c.ab:Int))=((q-c.ab:Nat):Int)):=by
  show _=_;rw [Go.IntWalk.wrap64_in _ (by omega)];omega
 clear hc hq V h1 h2;go_enter Tryz.func91,Tryz.ntmps91
 go_wp2_with (first
  |(go_at_call 32;refine HC.out.mono ?_;rintro e w' ⟨rfl,hx⟩;rw [hx];clear hx w')
  |(go_at_call 80;refine HA.out.mono ?_;rintro e w1 ⟨rfl,b1⟩))
 go_ret;exact ⟨by rw [← HW.out];rfl,b1⟩
theorem Zwh {ct:Int→Nat} {ca:Int→Ce} (V:Vw w v mk ct ca) (h:Int):Kc 11 #[v,.int .i64 h] w fun e w'=>e=.returned (.bool (decide (0<ct h)))∧Kb w w':=by
 have HC:=Za (V.count w h (Below.refl _ _));obtain ⟨q,hq⟩:∃q,q=ct h:=⟨_,rfl⟩;rw [← hq] at HC;rw [← hq];clear hq V;have e0:decide ((0:Int)<(q:Int))=decide (0<q):=by simp
 go_enter Tryz.func11,Tryz.ntmps11
 go_wp2_with (go_at_call 32;refine HC.out.mono ?_;rintro e w' ⟨rfl,hx⟩;rw [hx];clear hx w')
 go_ret;exact ⟨rfl,Below.refl _ _⟩
theorem Zvq {ct:Int→Nat} {ca:Int→Ce} (V:Vw w v mk ct ca) (h:Int):Kc 47 #[v,.int .i64 h] w fun e w'=>e=.returned (.agg (B (ca h).key))∧Kb w w':=by
 have HA:Hid (Kr w 80 #[v,.int .i64 h] (.agg (cz (ca h)).toArray)):=fun w' hb=>V.atv w' h hb
 have hf:=Yfc (ca h) (V.ok h);obtain ⟨c,hc⟩:∃c,c=ca h:=⟨_,rfl⟩;have HSZ:Hid ((B (ca h).key).size=32):=by rw [Zn];exact (V.ok h).hk.1
 rw [← hc] at HA hf HSZ;rw [← hc];clear hc V;go_enter Tryz.func47,Tryz.ntmps47
 go_wp2_with (first
  |((with_reducible refine Zv 4 ?_);refine Zh _ rfl _ rfl _ Zbp ?_;intro w1 b4 hg4 hl4 B4 b1;have HB4:=Za B4;have Hg4:=Za hg4;clear B4 hg4 hl4)
  |(go_at_call 80;refine (HA.out _ b1).mono ?_;rintro e w2 ⟨rfl,b2⟩;have B4':=Za (HB4.out.grow b2);have Hb2:=Za b2;clear b2)
  |((with_reducible refine Zag 4 ?_);refine Zf _ rfl _ _ _ rfl b4 _ (B c.key) rfl rfl B4'.out (by rw [HSZ.out];exact Zi) (by rw [HSZ.out,Zn];simp) (Zbt _) ?_;intro w3 B5 g3))
 exact bodyPost_ret (v:=.agg (B c.key)) (results_cell_row rfl _ _ b4 _ _ _ _ rfl B5 Tryz.underlying48 rfl (by rw [HSZ.out];exact Zi)) rfl ⟨rfl,Ze (Zb b1 Hb2.out) g3 Hg4.out⟩
theorem Zfl (a:Option Addr) (n c:Nat) (w:World):(binOp .eql 52 (.slice a n c) (.slice none 0 0)).run Tryz.prog w=.ok (.bool a.isNone) w:=by
 obtain ⟨e,he⟩:∃e,Tryz.prog.underlying 52=some (.slice e):=⟨_,Tryz.underlying52⟩;have h:∀d:Nat,(Op.equalIn (d+1) 52 (.slice a n c) (.slice none 0 0)).run Tryz.prog w=.ok a.isNone w:=fun d=>by
  cases a <;> simp [Op.equalIn,run_underlying he]
 simp only [binOp];simp [Op.equal,Op.maxDepth,h 9999]
theorem Zin (v:Value) (zs:Lq) (w:World) (hr:Reads w v zs) (hl:zs.length≤140737488355328):Kc 133 #[v] w fun e w'=>∃v' sp,e=.returned v'∧Own w.heap.size w' v' zs sp∧Kb w w':=by
 have HR:=Za hr;have HL:=Za hl;obtain ⟨a,cap,rfl,hc,hz,_,_⟩:=hr;cases a with
 | none=>
  have h0:=hz rfl;subst h0;have hn:zs=[]:=List.eq_nil_of_length_eq_zero (by omega);subst hn;have hq:=Zfl none 0 0 w;clear hc hz hl HR HL;go_enter Tryz.func133,Tryz.ntmps133
  go_wp2
  go_ret;exact ⟨_,[],rfl,Own.nil _ _,Below.refl _ _⟩
 | some x=>
  have HO:=Za (Own.empty w.heap.size w (Nat.le_refl _));have HR2:=Za (HR.out.grow (Zc w (.cells #[] 5)));have hq:=Zfl (some x) zs.length cap w;clear hz hl hc HR;go_enter Tryz.func133,Tryz.ntmps133
  go_wp2_with (at_builtin;refine Zix _ rfl _ _ rfl w.heap.size _ _ [] [] zs HO.out HR2.out rfl rfl (by simpa using HL.out) (by simp) ?_;intro v' w' sp' o' g' _ _)
  go_ret;exact ⟨_,sp',rfl,o',Ze (Zc w _) (by simpa [Value.ownBlock] using g') (Nat.le_refl _)⟩
theorem Zqr {ct:Int→Nat} {ca:Int→Ce} (V:Vw w v mk ct ca) (h:Int):Kc 83 #[v,.int .i64 h] w fun e w'=>∃v' sp,e=.returned v'∧Own w.heap.size w' v' (ca h).bs sp∧Kb w w':=by
 have HA:=Za (V.atv w h (Below.refl _ _));have hf:=Yfb (ca h) (V.ok h);have HR:=Za (V.val h);have HL:=Za (V.len h);obtain ⟨c,hc⟩:∃c,c=ca h:=⟨_,rfl⟩;rw [← hc] at HA hf HR HL;rw [← hc];clear hc V;go_enter Tryz.func83,Tryz.ntmps83
 go_wp2_with (first
  |(go_at_call 80;refine HA.out.mono ?_;rintro e w1 ⟨rfl,b1⟩)
  |(go_at_call 133;refine (Zin _ c.bs _ (HR.out.grow b1) (by have:=HL.out;omega)).mono ?_;rintro e w2 ⟨v',sp,rfl,o2,b2⟩))
 go_ret;exact ⟨_,sp,rfl,o2.mono b1.size,Zb b1 b2⟩
theorem Zhr {ct:Int→Nat} {ca:Int→Ce} (V:Vw w v mk ct ca) (h:Int):Kc 43 #[v,.int .i64 h] w fun e w'=>e=.returned (.tuple #[.int .i64 ((ca h).l:Int),.int .i64 ((ca h).r:Int)])∧Kb w w':=by
 have HA:=Za (V.atv w h (Below.refl _ _));have HO:=Za (V.ok h);obtain ⟨c,hc⟩:∃c,c=ca h:=⟨_,rfl⟩;rw [← hc] at HA HO;rw [← hc];clear hc V;go_enter Tryz.func43,Tryz.ntmps43
 go_wp2_with (first
  |(go_at_call 80;refine HA.out.mono ?_;rintro e w1 ⟨rfl,b1⟩)
  |((with_reducible refine Zv 6 ?_);refine Zh _ rfl _ rfl _ Zal ?_;intro w2 b6 hg6 hl6 B6 b2;have HB6:=Za B6;have Hg6:=Za hg6;have Hb2:=Za b2;clear B6 hg6 hl6 b2)
  |((with_reducible refine Zag 6 ?_);refine Zf _ rfl _ _ _ rfl b6 _ (cz c).toArray rfl rfl HB6.out (Zco (cz c) (Zar HO.out)) (Zkx (cz c) (Zar HO.out)) (all_oneCell_toArray (Zda HO.out)) ?_;intro w3 B7 g3;have c7:=B7.cell 69;have c8:=B7.cell 70;simp only [List.getElem?_toArray] at c7 c8;rw [(Zav c HO.out).2.2.2.2.2.1] at c7;rw [(Zav c HO.out).2.2.2.2.2.2] at c8;have Hg3:=Za g3;clear B7 g3))
 go_quiet (fail)
 go_wp2
 go_ret2;exact ⟨rfl,below_drewN (Ze (Zb b1 Hb2.out) Hg3.out (by have:=Hg6.out;have:=b1.size;omega)) _⟩
def vDp (mk:Bool) (c:Ce):Int:=if mk then (if c.kind=2 then (c.dp:Int) else -1) else 0
theorem Zmj {ct:Int→Nat} {ca:Int→Ce} (V:Vw w v mk ct ca) (h:Int):Kc 45 #[v,.int .i64 h] w fun e w'=>e=.returned (.int .i64 (vDp mk (ca h)))∧Kb w w':=by
 have HM:=Za (V.made w (Below.refl _ _));cases mk with
 | false=>
  clear V;go_enter Tryz.func45,Tryz.ntmps45
  go_wp2_with (go_at_call 30;refine HM.out.mono ?_;rintro e w' ⟨rfl,hx⟩;rw [hx];clear hx w')
  go_ret;exact ⟨rfl,Below.refl _ _⟩
 | true=>
  have HA:=Za (V.atv w h (Below.refl _ _));have HO:=Za (V.ok h);obtain ⟨c,hc⟩:∃c,c=ca h:=⟨_,rfl⟩;rw [← hc] at HA HO;rw [← hc];clear hc V
  by_cases hk:c.kind=2
  ·have HV:Hid (vDp true c=(c.dp:Int)):=by simp [vDp,hk,Hid]
   rw [HV.out];have HK:=Za hk;clear hk HV;go_enter Tryz.func45,Tryz.ntmps45
   go_wp2_with (first
    |(go_at_call 30;refine HM.out.mono ?_;rintro e w' ⟨rfl,hx⟩;rw [hx];clear hx w')
    |(go_at_call 80;refine HA.out.mono ?_;rintro e w1 ⟨rfl,b1⟩)
    |((with_reducible refine Zv 5 ?_);refine Zh _ rfl _ rfl _ Zal ?_;intro w2 b6 hg6 hl6 B6 b2;have HB6:=Za B6;have Hg6:=Za hg6;have Hb2:=Za b2;clear B6 hg6 hl6 b2)
    |((with_reducible refine Zag 5 ?_);refine Zf _ rfl _ _ _ rfl b6 _ (cz c).toArray rfl rfl HB6.out (Zco (cz c) (Zar HO.out)) (Zkx (cz c) (Zar HO.out)) (all_oneCell_toArray (Zda HO.out)) ?_;intro w3 B7 g3;have c7:=B7.cell 32;have c8:=B7.cell 68;simp only [List.getElem?_toArray] at c7 c8;rw [(Zav c HO.out).1,HK.out] at c7;rw [(Zav c HO.out).2.2.2.2.1] at c8;have Hg3:=Za g3;clear B7 g3))
   go_ret;exact ⟨rfl,Ze (Zb b1 Hb2.out) Hg3.out (by have:=Hg6.out;have:=b1.size;omega)⟩
  ·have HV:Hid (vDp true c= -1):=by simp [vDp,hk,Hid]
   rw [HV.out];have hk2:(c.kind == 2)=false:=by simp [hk]
   have HK:=Za hk;clear hk HV;obtain ⟨k,hkk⟩:∃k,k=c.kind:=⟨_,rfl⟩;have HKK:=Za hkk;rw [← hkk] at hk2;clear hkk;go_enter Tryz.func45,Tryz.ntmps45
   go_wp2_with (first
    |(go_at_call 30;refine HM.out.mono ?_;rintro e w' ⟨rfl,hx⟩;rw [hx];clear hx w')
    |(go_at_call 80;refine HA.out.mono ?_;rintro e w1 ⟨rfl,b1⟩)
    |((with_reducible refine Zv 5 ?_);refine Zh _ rfl _ rfl _ Zal ?_;intro w2 b6 hg6 hl6 B6 b2;have HB6:=Za B6;have Hg6:=Za hg6;have Hb2:=Za b2;clear B6 hg6 hl6 b2)
    |((with_reducible refine Zag 5 ?_);refine Zf _ rfl _ _ _ rfl b6 _ (cz c).toArray rfl rfl HB6.out (Zco (cz c) (Zar HO.out)) (Zkx (cz c) (Zar HO.out)) (all_oneCell_toArray (Zda HO.out)) ?_;intro w3 B7 g3;have c7:=B7.cell 32;simp only [List.getElem?_toArray] at c7;rw [(Zav c HO.out).1,← HKK.out] at c7;have Hg3:=Za g3;clear B7 g3))
   go_ret;exact ⟨rfl,Ze (Zb b1 Hb2.out) Hg3.out (by have:=Hg6.out;have:=b1.size;omega)⟩
def vRt (mk:Bool) (q:Nat) (c:Ce) (h:Int):Int:=if mk then (if h=0 then 0 else if q=0 then 7 else if 0<vDp mk c then 2 else 0) else 1
theorem Zcu {ct:Int→Nat} {ca:Int→Ce} (V:Vw w v mk ct ca) (h:Int):Kc 41 #[v,.int .i64 h] w fun e w'=>e=.returned (.int .i64 (vRt mk (ct h) (ca h) h))∧Kb w w':=by
 have HM:=Za (V.made w (Below.refl _ _));cases mk with
 | false=>
  clear V;go_enter Tryz.func41,Tryz.ntmps41
  go_wp2_with (go_at_call 30;refine HM.out.mono ?_;rintro e w' ⟨rfl,hx⟩;rw [hx];clear hx w')
  go_ret;exact ⟨rfl,Below.refl _ _⟩
 | true=>
  by_cases h0:h=0
  ·subst h0;have HV:Hid (vRt true (ct 0) (ca 0) 0=0):=rfl;rw [HV.out];clear V HV;go_enter Tryz.func41,Tryz.ntmps41
   go_wp2_with (go_at_call 30;refine HM.out.mono ?_;rintro e w' ⟨rfl,hx⟩;rw [hx];clear hx w')
   go_ret;exact ⟨rfl,Below.refl _ _⟩
  ·have HH:=Za (Zwh V h);have HD:Hid (Kr w 45 #[v,.int .i64 h] (.int .i64 (vDp true (ca h)))):=fun w' hb=>Zmj (V.grow hb) h
   have hb0:(h == 0)=false:=by simp [h0]
   by_cases hq:0<ct h
   ·have e1:decide (0<ct h)=true:=by simp [hq]
    rw [e1] at HH
    by_cases hd:0<vDp true (ca h)
    ·have HV:Hid (vRt true (ct h) (ca h) h=2):=by simp [vRt,h0,hd,Hid];omega
     rw [HV.out];obtain ⟨q,hqq⟩:∃q,q=vDp true (ca h):=⟨_,rfl⟩;rw [← hqq] at HD hd;clear V HV h0 hq e1 hqq;go_enter Tryz.func41,Tryz.ntmps41
     go_wp2_with (first
      |(go_at_call 30;refine HM.out.mono ?_;rintro e w' ⟨rfl,hx⟩;rw [hx];clear hx w')
      |(go_at_call 11;refine HH.out.mono ?_;rintro e w1 ⟨rfl,b1⟩)
      |(go_at_call 45;refine (HD.out _ b1).mono ?_;rintro e w2 ⟨rfl,b2⟩))
     go_ret;exact ⟨rfl,Zb b1 b2⟩
    ·have HV:Hid (vRt true (ct h) (ca h) h=0):=by simp [vRt,h0,hd,Hid];omega
     rw [HV.out];obtain ⟨q,hqq⟩:∃q,q=vDp true (ca h):=⟨_,rfl⟩;rw [← hqq] at HD hd;clear V HV h0 hq e1 hqq;go_enter Tryz.func41,Tryz.ntmps41
     go_wp2_with (first
      |(go_at_call 30;refine HM.out.mono ?_;rintro e w' ⟨rfl,hx⟩;rw [hx];clear hx w')
      |(go_at_call 11;refine HH.out.mono ?_;rintro e w1 ⟨rfl,b1⟩)
      |(go_at_call 45;refine (HD.out _ b1).mono ?_;rintro e w2 ⟨rfl,b2⟩))
     go_ret;exact ⟨rfl,Zb b1 b2⟩
   ·have e1:decide (0<ct h)=false:=by simp [hq]
    rw [e1] at HH;have HV:Hid (vRt true (ct h) (ca h) h=7):=by simp [vRt,h0,Hid];omega
    rw [HV.out];clear V HV h0 hq e1 HD;go_enter Tryz.func41,Tryz.ntmps41
    go_wp2_with (first
     |(go_at_call 30;refine HM.out.mono ?_;rintro e w' ⟨rfl,hx⟩;rw [hx];clear hx w')
     |(go_at_call 11;refine HH.out.mono ?_;rintro e w1 ⟨rfl,b1⟩))
    go_ret;exact ⟨rfl,b1⟩
def vDg (mk:Bool) (ca:Int→Ce) (h:Int):Lq:=if mk=true∧h=0 then emD else (ca h).dig
theorem Zsq {ct:Int→Nat} {ca:Int→Ce} (V:Vw w v mk ct ca) (h:Int):(vDg mk ca h).length=32∧Bytes (vDg mk ca h):=by
 unfold vDg;split
 ·exact ⟨Zad _,Zbj _⟩
 ·exact ⟨(V.ok h).ld,(V.ok h).bd⟩
theorem Zox {ct:Int→Nat} {ca:Int→Ce} (V:Vw w v mk ct ca) (h:Int) (hL:Laid w):Kc 193 #[v,.int .i64 h] w fun e w'=>e=.returned (.agg (B (vDg mk ca h)))∧Kb w w':=by
 have HM:Hid (∀w',Kb w w'→Kc 30 #[v] w' fun e w''=>e=.returned (.bool mk)∧w''=w'):=V.made
 by_cases hc:mk=true∧h=0
 ·obtain ⟨rfl,rfl⟩:=hc;have HE:Hid (∀w',Kb w w'→Kc 120 #[] w' (DigPost [0] w')):=fun w' hb=>Zwq w' (hL.grow hb)
  have HD:Hid (vDg true ca 0=dig [0]):=rfl;have HSZ:Hid ((B (dig [0])).size=32):=by rw [Zn];exact Zad _
  rw [HD.out];generalize hDD:dig [0]=D at HSZ ⊢;have HE':Hid (Kr w 120 #[] (.agg (B D))):=by rw [← hDD];exact HE
  clear HD V hL hDD HE;go_enter Tryz.func193,Tryz.ntmps193
  go_wp2_with (first
   |((with_reducible refine Zv 4 ?_);refine Zh _ rfl _ rfl _ Zba ?_;intro w1 b4 hg4 hl4 B4 b1;have HB4:=Za B4;have Hg4:=Za hg4;clear B4 hg4 hl4)
   |(go_at_call 30;refine (HM.out _ b1).mono ?_;rintro e w' ⟨rfl,hx⟩;rw [hx];clear hx w')
   |(go_at_call 120;refine (HE'.out _ b1).mono ?_;rintro e w2 ⟨rfl,b2⟩;have B4':=Za (HB4.out.grow b2);have Hb2:=Za b2;clear b2)
   |((with_reducible refine Zag 4 ?_);refine Zf _ rfl _ _ _ rfl b4 _ (B D) rfl rfl B4'.out (by rw [HSZ.out];exact Zt) (by rw [HSZ.out,Zn];simp) (Zbt _) ?_;intro w3 B5 g3))
  exact bodyPost_ret (v:=.agg (B D)) (results_cell_row rfl _ _ b4 _ _ _ _ rfl B5 Tryz.underlying43 rfl (by rw [HSZ.out];exact Zt)) rfl ⟨rfl,Ze (Zb b1 Hb2.out) g3 Hg4.out⟩
 ·have HA:Hid (Kr w 80 #[v,.int .i64 h] (.agg (cz (ca h)).toArray)):=fun w' hb=>V.atv w' h hb
  have hf:=Yfd (ca h) (V.ok h);have HD:Hid (vDg mk ca h=(ca h).dig):=by simp [vDg,hc,Hid]
  have HSZ:Hid ((B (ca h).dig).size=32):=by rw [Zn];exact (V.ok h).ld
  rw [HD.out];obtain ⟨c,hcc⟩:∃c,c=ca h:=⟨_,rfl⟩;rw [← hcc] at HA hf HSZ;rw [← hcc];have hcase:(mk=false)∨(mk=true∧(h == 0)=false):=by
   cases mk with
   | false=>exact .inl rfl
   | true=>exact .inr ⟨rfl,by simpa using hc⟩
  clear HD V hL hcc hc;rcases hcase with rfl | ⟨rfl,hb0⟩
  all_goals
   go_enter Tryz.func193,Tryz.ntmps193
   go_wp2_with (first
    |((with_reducible refine Zv 4 ?_);refine Zh _ rfl _ rfl _ Zba ?_;intro w1 b4 hg4 hl4 B4 b1;have HB4:=Za B4;have Hg4:=Za hg4;clear B4 hg4 hl4)
    |(go_at_call 30;refine (HM.out _ b1).mono ?_;rintro e w' ⟨rfl,hx⟩;rw [hx];clear hx w')
    |(go_at_call 80;refine (HA.out _ b1).mono ?_;rintro e w2 ⟨rfl,b2⟩;have B4':=Za (HB4.out.grow b2);have Hb2:=Za b2;clear b2)
    |((with_reducible refine Zag 4 ?_);refine Zf _ rfl _ _ _ rfl b4 _ (B c.dig) rfl rfl B4'.out (by rw [HSZ.out];exact Zt) (by rw [HSZ.out,Zn];simp) (Zbt _) ?_;intro w3 B5 g3))
   exact bodyPost_ret (v:=.agg (B c.dig)) (results_cell_row rfl _ _ b4 _ _ _ _ rfl B5 Tryz.underlying43 rfl (by rw [HSZ.out];exact Zt)) rfl ⟨rfl,Ze (Zb b1 Hb2.out) g3 Hg4.out⟩
open Go Go.RowKit
section
variable {P:Program} {ops:Array Oper} {Q:Exit→Act→World→Prop} {md:Region.Mode} {S:World→Prop} {L:Nat}
def shutB (md:Region.Mode) (ops:Array Oper) (listed:Array Bool):Bool:=
 (List.range ops.size).all fun c=>!listed.getD c false || match ops[c]? with
  | none=>true
  | some o=>o.after.all fun e=>!Region.binds md e || listed.getD e.on false
def ShutL (md:Region.Mode) (ops:Array Oper) (listed:Array Bool):Prop:=∀c o,ops[c]?=some o→listed.getD c false=true→∀e∈o.after,Region.binds md e=true→listed.getD e.on false=true
theorem Zys {listed:Array Bool} (h:shutB md ops listed=true):ShutL md ops listed:=by
 intro c o ho hl e he hb;unfold shutB at h;rw [List.all_eq_true] at h;have h1:=h c (List.mem_range.2 (Array.getElem?_eq_some_iff.1 ho).1);simp only [hl,ho,Bool.not_true,Bool.false_or,Array.all_eq_true_iff_forall_mem] at h1;have h2:=h1 e he;simpa [hb] using h2
theorem ShutL.step {listed:Array Bool} {j:Nat} (h:ShutL md ops listed) (hj:j∈Region.ready md ops listed):ShutL md ops (listed.setIfInBounds j true):=by
 intro c o ho hl e he hb
 by_cases hcj:j=c
 ·subst hcj;obtain ⟨_,o',ho',hall⟩:=mem_ready.1 hj;rw [ho] at ho';obtain rfl:=Option.some.inj ho';exact getD_set_true (hall e he hb)
 ·rw [getD_set_ne false hcj] at hl;exact getD_set_true (h c o ho hl e he hb)
def leads (md:Region.Mode) (ops:Array Oper) (i:Nat):Nat→Nat→Bool
 | 0,_=>false
 | n+1,c=>match ops[c]? with
  | none=>false
  | some o=>o.after.any fun e=>Region.binds md e && (e.on == i || leads md ops i n e.on)
theorem Zpo {listed:Array Bool} {i:Nat} (hs:ShutL md ops listed) (hi:listed.getD i false=false):∀(n c:Nat),leads md ops i n c=true→∀o,ops[c]?=some o→(∀e∈o.after,Region.binds md e=true→listed.getD e.on false=true)→False
 | 0,_,h,_,_,_=>by simp [leads] at h
 | n+1,c,h,o,ho,hall=>by
  unfold leads at h;rw [ho] at h;obtain ⟨e,he,hb⟩:=Array.any_eq_true'.1 h;simp only [Bool.and_eq_true,Bool.or_eq_true,beq_iff_eq] at hb;have h1:=hall e he hb.1;rcases hb.2 with q | q
  ·rw [q,hi] at h1;cases h1
  ·cases ho2:ops[e.on]? with
   | none=>
    cases n with
    | zero=>simp [leads] at q
    | succ n=>unfold leads at q;rw [ho2] at q;cases q
   | some o2=>exact Zpo hs hi n e.on q o2 ho2 (hs e.on o2 ho2 h1)
def wpAnyL (P:Program) (md:Region.Mode) (ops:Array Oper) (Q:Exit→Act→World→Prop) (S:World→Prop) (L:Nat):Nat→Array Bool→Act→World→Prop
 | 0,listed,a,w=>Region.ready md ops listed=[]∧Q .normal a w
 | fuel+1,listed,a,w=>
  (Region.ready md ops listed=[]→Q .normal a w)∧
  ∀i∈Region.ready md ops listed,wpOp P ops Q i (fun a' w'=>(i=L∨S w')∧wpAnyL P md ops Q S L fuel (listed.setIfInBounds i true) a' w') a w
theorem Zfi:∀(fuel:Nat) (listed:Array Bool) (a:Act) (w:World),wpAnyL P md ops Q S L fuel listed a w→wpAny P md ops Q fuel listed a w
 | 0,_,_,_,h=>h
 | fuel+1,_,_,_,h=>⟨h.1,fun i hi=>wpOp_mono (fun a' w' h'=>Zfi fuel _ a' w' h'.2) (h.2 i hi)⟩
theorem Zkz {oi:Oper} (hi:ops[i]?=some oi) (hsel:∀(j:Nat) (o:Oper) cs b,ops[j]?=some o→o.op≠.select cs b)
  (hQ:∀c a w,Q (.panic c) (a.put oi.dst v) w→Q (.panic c) a w) (hld:leads md ops i n L=true):
  ∀(fuel:Nat) (listed:Array Bool) (a:Act) (w:World),ShutL md ops listed→
   (∀j oj,ops[j]?=some oj→j≠i→listed.getD j true=false→(∀e∈oj.after,Region.binds md e=true→e.on≠i)→oi.apart ops oj=true)→
   i∈Region.ready md ops listed→YieldsIf P ops S oi v a→S w→
   wpAnyL P md ops Q S L fuel (listed.setIfInBounds i true) (a.put oi.dst v) w→wpAnyL P md ops Q S L (fuel+1) listed a w:=by
 intro fuel;induction fuel with
 | zero=>
  intro listed a w _ _ hr hy hS H;refine ⟨fun h=>(by rw [h] at hr;cases hr),fun j hj=>?_⟩
  by_cases hji:j=i
  ·subst hji;exact hy.wpOp hi hS ⟨.inr hS,H⟩
  ·have:=ready_mono hj hji;rw [H.1] at this;cases this
 | succ fuel ih=>
  intro listed a w hsh hfree hr hy hS H;refine ⟨fun h=>(by rw [h] at hr;cases hr),fun j hj=>?_⟩
  by_cases hji:j=i
  ·subst hji;exact hy.wpOp hi hS ⟨.inr hS,H⟩
  ·have h1:=H.2 j (ready_mono hj hji);obtain ⟨hjun,oj,hoj,hall⟩:=mem_ready.1 hj;have hi0:listed.getD i false=false:=by
    have h0:=(mem_ready.1 hr).1;rcases Nat.lt_or_ge i listed.size with h' | h'
    ·simpa [h'] using h0
    ·simp [Array.getElem?_eq_none h']
   have hjL:j≠L:=fun e=>by
    subst e;exact Zpo hsh hi0 n j hld oj hoj hall
   have hnot:∀e∈oj.after,Region.binds md e=true→e.on≠i:=fun e he hb heq=>by
    have h1:=hall e he hb;rw [heq,hi0] at h1;cases h1
   have h2:=wpOp_putIf hoj (hfree j oj hoj hji hjun hnot) (fun cs b=>hsel i oi cs b hi) (fun cs b=>hsel j oj cs b hoj) hQ hy h1;have hfree':∀k ok,ops[k]?=some ok→k≠i→(listed.setIfInBounds j true).getD k true=false→
     (∀e∈ok.after,Region.binds md e=true→e.on≠i)→oi.apart ops ok=true:=fun k ok hk hki hun hno=>by
    refine hfree k ok hk hki ?_ hno
    by_cases hjk:j=k
    ·subst hjk;exact hjun
    ·rw [getD_set_ne true hjk] at hun;exact hun
   refine wpOp_mono (fun a' w' h3=>⟨h3.2.1,ih (listed.setIfInBounds j true) a' w' (hsh.step hj) hfree' (ready_mono hr (Ne.symm hji)) h3.1 (h3.2.1.resolve_left hjL) ?_⟩) h2;rw [Array.setIfInBounds_comm _ _ hji];exact h3.2.2
theorem Zhl {oi:Oper} {listed:Array Bool} {a:Act} (hi:ops[i]?=some oi)
  (hs:Region.noSelect ops=true) (hf:Region.free md ops listed i=true) (hr:(Region.ready md ops listed).contains i=true) (hld:leads md ops i 40 L=true) (hsh:shutB md ops listed=true)
  (hQ:∀c a w,Q (.panic c) (a.put oi.dst v) w→Q (.panic c) a w) (hy:YieldsIf P ops S oi v a) (hS:S w)
  (h:wpAnyL P md ops Q S L fuel (listed.setIfInBounds i true) (a.put oi.dst v) w):wpAnyL P md ops Q S L (fuel+1) listed a w:=
 Zkz hi (Region.noSelect_spec hs) hQ hld fuel listed a w (Zys hsh) (Region.free_spec hi hf) (by simpa using hr) hy hS h
theorem tlp (i:Nat) (v:Value) {oi:Oper} {fuel:Nat} {listed:Array Bool} {a:Act} {w:World} (hS:S w) (h:wpAnyL P md ops Q S L fuel (listed.setIfInBounds i true) (a.put oi.dst v) w)
  (hi:ops[i]?=some oi:=by rfl) (hs:Region.noSelect ops=true:=by kernel_rfl) (hf:Region.free md ops listed i=true:=by kernel_rfl) (hr:(Region.ready md ops listed).contains i=true:=by kernel_rfl) (hld:leads md ops i 40 L=true:=by kernel_rfl) (hsh:shutB md ops listed=true:=by kernel_rfl)
  (hQ:∀c a w,Q (.panic c) (a.put oi.dst v) w→Q (.panic c) a w:=by exact fun _ _ _ h=>h) (hy:YieldsIf P ops S oi v a:=by exact Or.inl ⟨by rfl,fun w hS=>by go_simp⟩):wpAnyL P md ops Q S L (fuel+1) listed a w:=Zhl hi hs hf hr hld hsh hQ hy hS h
theorem tlg (i:Nat) (v:Value) {oi:Oper} {fuel:Nat} {listed:Array Bool} {a:Act} {w:World} (hi:ops[i]?=some oi) (hy:YieldsIf P ops S oi v a) (hS:S w) (h:wpAnyL P md ops Q S L fuel (listed.setIfInBounds i true) (a.put oi.dst v) w)
  (hs:Region.noSelect ops=true:=by kernel_rfl) (hf:Region.free md ops listed i=true:=by kernel_rfl) (hr:(Region.ready md ops listed).contains i=true:=by kernel_rfl) (hld:leads md ops i 40 L=true:=by kernel_rfl) (hsh:shutB md ops listed=true:=by kernel_rfl)
  (hQ:∀c a w,Q (.panic c) (a.put oi.dst v) w→Q (.panic c) a w:=by exact fun _ _ _ h=>h):wpAnyL P md ops Q S L (fuel+1) listed a w:=Zhl hi hs hf hr hld hsh hQ hy hS h
def AllReadyL (P:Program) (md:Region.Mode) (ops:Array Oper) (Q:Exit→Act→World→Prop) (S:World→Prop) (L:Nat) (fuel:Nat) (listed:Array Bool) (a:Act) (w:World) (rs:List Nat):Prop:=
 ∀i∈rs,wpOp P ops Q i (fun a' w'=>(i=L∨S w')∧wpAnyL P md ops Q S L fuel (listed.setIfInBounds i true) a' w') a w
theorem AllReadyL.nil {listed:Array Bool} {a:Act}:AllReadyL P md ops Q S L fuel listed a w []:=fun _ h=>by cases h
theorem AllReadyL.cons {listed:Array Bool} {a:Act} {o:Oper} {rs:List Nat} (ho:ops[i]?=some o)
  (h:∀K':Act→World→Prop,Shut (∀a w,(i=L∨S w)→(S w→wpAnyL P md ops Q S L fuel (listed.setIfInBounds i true) a w)→(i=L→wpAnyL P md ops Q S L fuel (listed.setIfInBounds i true) a w)→K' a w)→if Region.wanted o (yielded ops a.tmps)=true then Oper.wp P o a w K' Q else K' (a.put o.dst undef) w)
  (hs:AllReadyL P md ops Q S L fuel listed a w rs):AllReadyL P md ops Q S L fuel listed a w (i::rs):=fun j hj=>by
 rcases List.mem_cons.1 hj with rfl | hj
 ·exact wpOp_step ho (fun K' hK=>h K' (fun a w hS hW hL=>hK a w ⟨hS,hS.elim hL hW⟩))
 ·exact hs j hj
theorem Zgp {rs:List Nat} {listed:Array Bool} {a:Act} (hr:Region.ready md ops listed=rs) (hne:rs≠[])
  (h:AllReadyL P md ops Q S L fuel listed a w rs):wpAnyL P md ops Q S L (fuel+1) listed a w:=⟨fun h0=>absurd (hr ▸ h0) hne,hr ▸ h⟩
theorem Zap {listed:Array Bool} {a:Act} {o:Oper} (ho:ops[i]?=some o) (hr:Region.ready md ops listed=[i])
  (h:∀K':Act→World→Prop,Shut (∀a w,S w→(S w→wpAnyL P md ops Q S L fuel (listed.setIfInBounds i true) a w)→K' a w)→if Region.wanted o (yielded ops a.tmps)=true then Oper.wp P o a w K' Q else K' (a.put o.dst undef) w):
  wpAnyL P md ops Q S L (fuel+1) listed a w:=
 Zgp hr (by simp) (AllReadyL.cons ho (fun K' hK=>h K' (fun a w hS hW=>hK.out a w (.inr hS) hW (fun _=>hW hS))) AllReadyL.nil)
theorem Zam {listed:Array Bool} {a:Act} {o:Oper} (ho:ops[L]?=some o) (hr:Region.ready md ops listed=[L]) (he:Region.ready md ops (listed.setIfInBounds L true)=[])
  (h:∀K':Act→World→Prop,Shut (∀a w,Q .normal a w→K' a w)→if Region.wanted o (yielded ops a.tmps)=true then Oper.wp P o a w K' Q else K' (a.put o.dst undef) w):
  wpAnyL P md ops Q S L (fuel+1) listed a w:=
 Zgp hr (by simp) (AllReadyL.cons ho (fun K' hK=>h K' (fun a w hQ=>by
  have hd:wpAnyL P md ops Q S L fuel (listed.setIfInBounds L true) a w:=by
   cases fuel with
   | zero=>exact ⟨he,hQ⟩
   | succ n=>exact ⟨fun _=>hQ,by rw [he];simp⟩
  exact hK.out a w (.inl rfl) (fun _=>hd) (fun _=>hd))) AllReadyL.nil)
theorem Zy {id:Nat} {a:Act} (L:Nat) (hm:P.follows .mixedOrders=true) (hS:S w.drew)
  (h:S w.drew→wpAnyL P .any ops Q S L ops.size (Array.replicate ops.size false) a w.drew):(Code.region id ops true).wp P Q a w:=
 wp_region_any hm (Zfi _ _ _ _ (h hS))
end
end Go.Proofs.YtlclabbnpjobgaaGreatDoor
namespace Go.Proofs.YtlclabbnpjobgaaGreatDoor
variable {cs:Lz}
variable {fr pend:List Nat}
variable {fuel g gs i n room:Nat}
variable {mk:Bool}
variable {v vf vp:Value}
variable {w w':World}
set_option maxHeartbeats 2000000
set_option maxRecDepth 20000
open Go.RowKit
def vNd (mk:Bool) (ca:Int→Ce) (h:Int):Lq:=if (ca h).kind=1 then nd 1 (ca h).key (vaD (ca h).bs) z32 z32 else if (ca h).kind=2 then nd 2 z32 z32 (vDg mk ca ((ca h).l:Int)) (vDg mk ca ((ca h).r:Int)) else nd 0 z32 z32 z32 z32
end Go.Proofs.YtlclabbnpjobgaaGreatDoor
