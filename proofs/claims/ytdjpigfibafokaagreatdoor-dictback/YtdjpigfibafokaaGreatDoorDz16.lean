/- The document's digests (rootcellarref03), and Entry of both, as contracts. -/
import Derived.Test.YtdjpigfibafokaaGreatDoorDz01
import Derived.Test.YtdjpigfibafokaaGreatDoorDz13
import Derived.Test.YtdjpigfibafokaaGreatDoorDz15
import Derived.Laws.ResultCell
import Derived.Test.YtdjpigfibafokaaGreatDoorDz14
import Derived.Test.YtdjpigfibafokaaGreatDoorDz05
import Derived.Deep.RegionHeld
namespace Go.Proofs.YtdjpigfibafokaaGreatDoor
variable {cs:Lz}
variable {fr pend:List Nat}
variable {fuel g gs i j n room:Nat}
variable {mk:Bool}
variable {v vf vp:Value}
variable {w w':World}
set_option maxHeartbeats 2000000
set_option maxRecDepth 20000
open Go.RowKit

theorem entry_short (K:Lq) (v:Value) (zs:Lq) (w:World) (hk:K.length=32) (bk:Bytes K) (h:Reads w v zs) (hL:Laid w) (hl:zs.length≤1024):Kc 264 #[.agg (B K),v] w fun e w'=>e=.returned (.tuple #[.agg (B (dig (1::(K++dig (3::zs))))),.int .i64 0])∧Kb w w':=by
  obtain ⟨D,hD⟩:∃D,D=dig (1::(K++dig (3::zs))):=⟨_,rfl⟩;obtain ⟨E,hE⟩:∃E,E=dig (3::zs):=⟨_,rfl⟩;have HD:=hidden hD;have HSZ:Hid ((B D).size=32):=by rw [B_size,hD];exact dig_length _
  have HKZ:Hid ((B K).size=32):=by rw [B_size];exact hk
  have HV:Hid (Kr w 46 #[v] (.agg (B E))):=by
    intro w' hw';rw [hE];exact value_any v zs w' (h.grow hw') (hL.grow hw') (by omega)
  have HF:Hid (Kr w 185 #[.agg (B K),.agg (B E)] (.agg (B D))):=by
    intro w' hw';rw [hD,← hE];exact leaf_any K E w' hk (by rw [hE];exact dig_length _) bk (by rw [hE];exact dig_bytes _) (hL.grow hw')
  rw [← hD];obtain ⟨va,vc,rfl,_,_,_,_⟩:=h;have hgt: ¬(1024:Int)<(zs.length:Int):=by omega
  generalize zs.length=n at *;clear hD hE hk bk;go_enter Tryz.func264,Tryz.ntmps264
  go_wp2_with (first
    |(refine wpList_bx _ rfl _ _ rfl _ rfl ?_;intro w1 g1 hg1 hl1 B1 b1)
    |(refine wpList_al _ rfl _ rfl _ zero_hash ?_;intro w2 g2 hg2 hl2 B2 b2))
  have c2:=b1.trans (b2.mono b1.size);have HB1:=hidden (B1.grow b2);have HB2:=hidden B2;have hd2:Kb w2 w2.drew:=(Below.refl _ _).drew;have hiK:(Tryz.prog.info? 63).map (·.size)=some (B K).toList.length:=by rw [Array.length_toList,HKZ.out];kernel_rfl
  clear B1 B2;refine wp_region_held_drew (S:=fun w'=>w'.rangeAt g1 0 (B K).toList) (by kernel_rfl) ((HB1.out.grow hd2).range) (fun hHeld=>?_);refine tkg 0 (.agg (B K)) rfl (yieldsIf_load_mid rfl 63 (.tmp 2) rfl g1 0 rfl (B K).toList _ (fun w hS=>hS) Tryz.underlying63 rfl hiK) hHeld ?_;simp only [Act.put,zq1,zq2,zq4,zq5,zq6];refine tkp 1 (.slice va n vc) hHeld ?_;simp only [Act.put,zq1,zq2,zq3,zq4,zq5,zq6];refine wpAnyH_ready (rs:=[2]) (by kernel_rfl) (by simp) ?_;refine AllReadyH.cons rfl (fun K1 hK=>?_) AllReadyH.nil;go_simp;refine (HV.out _ (grow_trans c2 hd2)).mono ?_;rintro e w3 ⟨rfl,b3⟩;have hd3:=grow_trans hd2 b3;refine hK.out _ _ ((HB1.out.grow hd3).range) (fun hHeld=>?_);clear hK K1;refine wpAnyH_ready (rs:=[3]) (by kernel_rfl) (by simp) ?_;refine AllReadyH.cons rfl (fun K1 hK=>?_) AllReadyH.nil;go_simp;refine (HF.out _ (grow_trans c2 hd3)).mono ?_;rintro e w4 ⟨rfl,b4⟩;have hd4:=grow_trans hd3 b4;refine hK.out _ _ ((HB1.out.grow hd4).range) (fun hHeld=>?_);clear hK K1;have B4:=HB2.out.grow hd4;refine wpAnyH_ready (rs:=[4]) (by kernel_rfl) (by simp) ?_;refine AllReadyH.cons rfl (fun K1 hK=>?_) AllReadyH.nil;refine step_sto _ rfl _ _ _ rfl g2 _ (B D) rfl rfl B4 (by rw [HSZ.out];exact size_hash) (by rw [HSZ.out,B_size];simp) (B_one _) ?_;intro w5 B5 g5;refine hK.out _ _ (((HB1.out.grow hd4).kept g5 (by omega)).range) (fun hHeld=>?_);clear hK K1;refine tkp 5 (.int .i64 0) hHeld ?_;simp only [Act.put,zq1,zq2,zq3,zq4,zq5,zq6];refine wpAnyH_done (by kernel_rfl) ?_ _
  go_wp2_with fail
  exact bodyPost_ret (v:=.tuple #[.agg (B D),.int .i64 0]) (results_row_tmp rfl _ _ g2 _ _ _ _ rfl rfl B5 Tryz.underlying36 (by rw [HSZ.out];exact size_hash)) rfl ⟨rfl,below_row (grow_trans c2 hd4) g5 (Nat.le_trans b1.size hg2)⟩

end Go.Proofs.YtdjpigfibafokaaGreatDoor

namespace Go.Proofs.YtdjpigfibafokaaGreatDoor
variable {cs:Lz}
variable {fr pend:List Nat}
variable {fuel g gs i j n room:Nat}
variable {mk:Bool}
variable {v vf vp:Value}
variable {w w':World}
set_option maxHeartbeats 2000000
set_option maxRecDepth 20000
open Go.RowKit

structure Vw (w:World) (v:Value) (mk:Bool) (ct:Int→Nat) (ca:Int→Ce):Prop where
  made:∀w',Kb w w'→Kc 75 #[v] w' fun e w''=>e=.returned (.bool mk)∧w''=w'
  atv:∀w' h,Kb w w'→Kc 125 #[v,.int .i64 h] w' fun e w''=>e=.returned (.agg (cz (ca h)).toArray)∧Below w'.heap.size w' w''
  count:∀w' h,Kb w w'→Kc 72 #[v,.int .i64 h] w' fun e w''=>e=.returned (.int .i64 (ct h:Int))∧w''=w'
  ok:∀h,CeOk (ca h)
  val:∀h,Reads w (ca h).val (ca h).bs
  len:∀h,(ca h).bs.length≤1024
  le:∀h,(ca h).ab≤ct h∧ct h≤1073741824

theorem Vw.grow {ct:Int→Nat} {ca:Int→Ce} (V:Vw w v mk ct ca) (hb:Kb w w'):Vw w' v mk ct ca:=
  ⟨fun w'' h=>V.made w'' (grow_trans hb h),fun w'' x h=>V.atv w'' x (grow_trans hb h),fun w'' x h=>V.count w'' x (grow_trans hb h),V.ok,fun h=>(V.val h).grow hb,V.len,V.le⟩

theorem countS_ok (s:Stm w g gs vp vf room cs fr) (h:Int):Kc 72 #[.pointer (some ⟨g,0,none⟩),.int .i64 h] w fun e w'=>e=.returned (.int .i64 (cot cs h:Int))∧w'=w:=by
  have c0:=s.c0;have c1:=s.c1;have HC:=hidden (count_any s h);generalize cot cs h=q at HC ⊢;clear s;go_enter Tryz.func72,Tryz.ntmps72
  go_wp2_with (first
    |(go_at_call 75;refine (madeS_ok g _ c0).mono ?_;rintro e w' ⟨rfl,hx⟩;rw [hx];clear hx w')
    |(go_at_call 134;refine HC.out.mono ?_;rintro e w' ⟨rfl,hx⟩;rw [hx];clear hx w'))
  go_ret;exact ⟨rfl,rfl⟩

theorem Wf.bsLen (w:Wf cs pend) (h:Int):(cat cs h).bs.length≤1024:=by
  by_cases hc:cot cs h=0
  · rw [w.cat0 hc]
    decide
  · obtain ⟨i,h1,h2,h3,h4⟩:=cot_in (cs:=cs) (h:=h) (by omega)
    rw [h4];rcases w.tr i h2 with hl | hn
    · exact hl.len
    · rw [hn.bs]
      decide

theorem vw_ok (s:Stm w g gs vp vf room cs fr) (hw:Wf cs pend):Vw w (.pointer (some ⟨g,0,none⟩)) true (cot cs) (cat cs):=by
  refine ⟨fun w' hb=>madeS_ok g w' (s.grow hb).c0,fun w' h hb=>atS_ok (s.grow hb) hw h,fun w' h hb=>countS_ok (s.grow hb) h,hw.catOk,fun h=>?_,hw.bsLen,fun h=>?_⟩
  · unfold cat
    split
    · obtain ⟨sp,ho⟩:=s.vals (h-1).toNat
      exact ho.reads
    · exact Reads.nil _
  · unfold cat cot
    split
    · have h1:=hw.le (h-1).toNat
      have h2:=s.sl.inv.most (h-1).toNat;rw [cnt_pl] at h2;omega
    · exact ⟨by decide,by decide⟩

theorem kind_any {ct:Int→Nat} {ca:Int→Ce} (V:Vw w v mk ct ca) (h:Int):Kc 149 #[v,.int .i64 h] w fun e w'=>e=.returned (.int .u8 (ca h).kind)∧Kb w w':=by
  have HA:=hidden (V.atv w h (Below.refl _ _));have hf:=fld_kind (ca h) (V.ok h);obtain ⟨c,hc⟩:∃c,c=ca h:=⟨_,rfl⟩;rw [← hc] at HA hf;rw [← hc];clear hc V;go_enter Tryz.func149,Tryz.ntmps149
  go_wp2_with (go_at_call 125;refine HA.out.mono ?_;rintro e w1 ⟨rfl,b1⟩)
  go_ret;exact ⟨rfl,b1⟩

theorem held_any {ct:Int→Nat} {ca:Int→Ce} (V:Vw w v mk ct ca) (h:Int):Kc 172 #[v,.int .i64 h] w fun e w'=>e=.returned (.int .i64 ((ct h-(ca h).ab:Nat):Int))∧Kb w w':=by
  have HA:=hidden (V.atv w h (Below.refl _ _));have HC:=hidden (V.count w h (Below.refl _ _));have hf:=fld_ab (ca h) (V.ok h);obtain ⟨h1,h2⟩:=V.le h;obtain ⟨q,hq⟩:∃q,q=ct h:=⟨_,rfl⟩;rw [← hq] at HC h1 h2;rw [← hq];obtain ⟨c,hc⟩:∃c,c=ca h:=⟨_,rfl⟩;rw [← hc] at HA hf h1;rw [← hc];have HW:Hid (wrap64 ((q:Int)-(c.ab:Int))=((q-c.ab:Nat):Int)):=by
    show _=_;rw [Go.IntWalk.wrap64_in _ (by omega)];omega
  clear hc hq V h1 h2;go_enter Tryz.func172,Tryz.ntmps172
  go_wp2_with (first
    |(go_at_call 72;refine HC.out.mono ?_;rintro e w' ⟨rfl,hx⟩;rw [hx];clear hx w')
    |(go_at_call 125;refine HA.out.mono ?_;rintro e w1 ⟨rfl,b1⟩))
  go_ret;exact ⟨by rw [← HW.out];rfl,b1⟩

theorem has_any {ct:Int→Nat} {ca:Int→Ce} (V:Vw w v mk ct ca) (h:Int):Kc 191 #[v,.int .i64 h] w fun e w'=>e=.returned (.bool (decide (0<ct h)))∧Kb w w':=by
  have HC:=hidden (V.count w h (Below.refl _ _));obtain ⟨q,hq⟩:∃q,q=ct h:=⟨_,rfl⟩;rw [← hq] at HC;rw [← hq];clear hq V;have e0:decide ((0:Int)<(q:Int))=decide (0<q):=by simp
  go_enter Tryz.func191,Tryz.ntmps191
  go_wp2_with (go_at_call 72;refine HC.out.mono ?_;rintro e w' ⟨rfl,hx⟩;rw [hx];clear hx w')
  go_ret;exact ⟨rfl,Below.refl _ _⟩

theorem key_any {ct:Int→Nat} {ca:Int→Ce} (V:Vw w v mk ct ca) (h:Int):Kc 150 #[v,.int .i64 h] w fun e w'=>e=.returned (.agg (B (ca h).key))∧Kb w w':=by
  have HA:Hid (Kr w 125 #[v,.int .i64 h] (.agg (cz (ca h)).toArray)):=fun w' hb=>V.atv w' h hb
  have hf:=fld_key (ca h) (V.ok h);obtain ⟨c,hc⟩:∃c,c=ca h:=⟨_,rfl⟩;have HSZ:Hid ((B (ca h).key).size=32):=by rw [B_size];exact (V.ok h).hk.1
  rw [← hc] at HA hf HSZ;rw [← hc];clear hc V;go_enter Tryz.func150,Tryz.ntmps150
  go_wp2_with (first
    |((with_reducible refine at_ald 4 ?_);refine wpList_al _ rfl _ rfl _ zero_path ?_;intro w1 b4 hg4 hl4 B4 b1;have HB4:=hidden B4;have Hg4:=hidden hg4;clear B4 hg4 hl4)
    |(go_at_call 125;refine (HA.out _ b1).mono ?_;rintro e w2 ⟨rfl,b2⟩;have B4':=hidden (HB4.out.grow b2);have Hb2:=hidden b2;clear b2)
    |((with_reducible refine at_st 4 ?_);refine wpList_sto _ rfl _ _ _ rfl b4 _ (B c.key) rfl rfl B4'.out (by rw [HSZ.out];exact size_path) (by rw [HSZ.out,B_size];simp) (B_one _) ?_;intro w3 B5 g3))
  exact bodyPost_ret (v:=.agg (B c.key)) (results_cell_row rfl _ _ b4 _ _ _ _ rfl B5 Tryz.underlying63 rfl (by rw [HSZ.out];exact size_path)) rfl ⟨rfl,below_row (grow_trans b1 Hb2.out) g3 Hg4.out⟩

theorem run_nil_bytes (a:Option Addr) (n c:Nat) (w:World):(binOp .eql 30 (.slice a n c) (.slice none 0 0)).run Tryz.prog w=.ok (.bool a.isNone) w:=by
  obtain ⟨e,he⟩:∃e,Tryz.prog.underlying 30=some (.slice e):=⟨_,Tryz.underlying30⟩;have h:∀d:Nat,(Op.equalIn (d+1) 30 (.slice a n c) (.slice none 0 0)).run Tryz.prog w=.ok a.isNone w:=fun d=>by
    cases a <;> simp [Op.equalIn,run_underlying he]
  simp only [binOp];simp [Op.equal,Op.maxDepth,h 9999]

theorem clone_any (v:Value) (zs:Lq) (w:World) (hr:Reads w v zs) (hl:zs.length≤140737488355328):Kc 218 #[v] w fun e w'=>∃v' sp,e=.returned v'∧Own w.heap.size w' v' zs sp∧Kb w w':=by
  have HR:=hidden hr;have HL:=hidden hl;obtain ⟨a,cap,rfl,hc,hz,_,_⟩:=hr;cases a with
  | none=>
    have h0:=hz rfl;subst h0;have hn:zs=[]:=List.eq_nil_of_length_eq_zero (by omega);subst hn;have hq:=run_nil_bytes none 0 0 w;clear hc hz hl HR HL;go_enter Tryz.func218,Tryz.ntmps218
    go_wp2
    go_ret;exact ⟨_,[],rfl,Own.nil _ _,Below.refl _ _⟩
  | some x=>
    have HO:=hidden (Own.empty w.heap.size w (Nat.le_refl _));have HR2:=hidden (HR.out.grow (grow_alloc w (.cells #[] 5)));have hq:=run_nil_bytes (some x) zs.length cap w;clear hz hl hc HR;go_enter Tryz.func218,Tryz.ntmps218
    go_wp2_with (at_builtin;refine wpList_app _ rfl _ _ rfl w.heap.size _ _ [] [] zs HO.out HR2.out rfl rfl (by simpa using HL.out) (by simp) ?_;intro v' w' sp' o' g' _ _)
    go_ret;exact ⟨_,sp',rfl,o',below_row (grow_alloc w _) (by simpa [Value.ownBlock] using g') (Nat.le_refl _)⟩

theorem valueS_any {ct:Int→Nat} {ca:Int→Ce} (V:Vw w v mk ct ca) (h:Int):Kc 151 #[v,.int .i64 h] w fun e w'=>∃v' sp,e=.returned v'∧Own w.heap.size w' v' (ca h).bs sp∧Kb w w':=by
  have HA:=hidden (V.atv w h (Below.refl _ _));have hf:=fld_val (ca h) (V.ok h);have HR:=hidden (V.val h);have HL:=hidden (V.len h);obtain ⟨c,hc⟩:∃c,c=ca h:=⟨_,rfl⟩;rw [← hc] at HA hf HR HL;rw [← hc];clear hc V;go_enter Tryz.func151,Tryz.ntmps151
  go_wp2_with (first
    |(go_at_call 125;refine HA.out.mono ?_;rintro e w1 ⟨rfl,b1⟩)
    |(go_at_call 218;refine (clone_any _ c.bs _ (HR.out.grow b1) (by have:=HL.out;omega)).mono ?_;rintro e w2 ⟨v',sp,rfl,o2,b2⟩))
  go_ret;exact ⟨_,sp,rfl,o2.mono b1.size,grow_trans b1 b2⟩

theorem sides_any {ct:Int→Nat} {ca:Int→Ce} (V:Vw w v mk ct ca) (h:Int):Kc 132 #[v,.int .i64 h] w fun e w'=>e=.returned (.tuple #[.int .i64 ((ca h).l:Int),.int .i64 ((ca h).r:Int)])∧Kb w w':=by
  have HA:=hidden (V.atv w h (Below.refl _ _));have HO:=hidden (V.ok h);obtain ⟨c,hc⟩:∃c,c=ca h:=⟨_,rfl⟩;rw [← hc] at HA HO;rw [← hc];clear hc V;go_enter Tryz.func132,Tryz.ntmps132
  go_wp2_with (first
    |(go_at_call 125;refine HA.out.mono ?_;rintro e w1 ⟨rfl,b1⟩)
    |((with_reducible refine at_ald 6 ?_);refine wpList_al _ rfl _ rfl _ zero_thC ?_;intro w2 b6 hg6 hl6 B6 b2;have HB6:=hidden B6;have Hg6:=hidden hg6;have Hb2:=hidden b2;clear B6 hg6 hl6 b2)
    |((with_reducible refine at_st 6 ?_);refine wpList_sto _ rfl _ _ _ rfl b6 _ (cz c).toArray rfl rfl HB6.out (xszC (cz c) (cz_th HO.out)) (xzsC (cz c) (cz_th HO.out)) (all_oneCell_toArray (cz_one HO.out)) ?_;intro w3 B7 g3;have c7:=B7.cell 69;have c8:=B7.cell 70;simp only [List.getElem?_toArray] at c7 c8;rw [(cz_at c HO.out).2.2.2.2.2.1] at c7;rw [(cz_at c HO.out).2.2.2.2.2.2] at c8;have Hg3:=hidden g3;clear B7 g3))
  go_quiet (fail)
  go_wp2
  go_ret2;exact ⟨rfl,below_drewN (below_row (grow_trans b1 Hb2.out) Hg3.out (by have:=Hg6.out;have:=b1.size;omega)) _⟩

def vDp (mk:Bool) (c:Ce):Int:=if mk then (if c.kind=2 then (c.dp:Int) else -1) else 0

theorem depth_any {ct:Int→Nat} {ca:Int→Ce} (V:Vw w v mk ct ca) (h:Int):Kc 192 #[v,.int .i64 h] w fun e w'=>e=.returned (.int .i64 (vDp mk (ca h)))∧Kb w w':=by
  have HM:=hidden (V.made w (Below.refl _ _));cases mk with
  | false=>
    clear V;go_enter Tryz.func192,Tryz.ntmps192
    go_wp2_with (go_at_call 75;refine HM.out.mono ?_;rintro e w' ⟨rfl,hx⟩;rw [hx];clear hx w')
    go_ret;exact ⟨rfl,Below.refl _ _⟩
  | true=>
    have HA:=hidden (V.atv w h (Below.refl _ _));have HO:=hidden (V.ok h);obtain ⟨c,hc⟩:∃c,c=ca h:=⟨_,rfl⟩;rw [← hc] at HA HO;rw [← hc];clear hc V
    by_cases hk:c.kind=2
    · have HV:Hid (vDp true c=(c.dp:Int)):=by simp [vDp,hk,Hid]
      rw [HV.out];have HK:=hidden hk;clear hk HV;go_enter Tryz.func192,Tryz.ntmps192
      go_wp2_with (first
        |(go_at_call 75;refine HM.out.mono ?_;rintro e w' ⟨rfl,hx⟩;rw [hx];clear hx w')
        |(go_at_call 125;refine HA.out.mono ?_;rintro e w1 ⟨rfl,b1⟩)
        |((with_reducible refine at_ald 5 ?_);refine wpList_al _ rfl _ rfl _ zero_thC ?_;intro w2 b6 hg6 hl6 B6 b2;have HB6:=hidden B6;have Hg6:=hidden hg6;have Hb2:=hidden b2;clear B6 hg6 hl6 b2)
        |((with_reducible refine at_st 5 ?_);refine wpList_sto _ rfl _ _ _ rfl b6 _ (cz c).toArray rfl rfl HB6.out (xszC (cz c) (cz_th HO.out)) (xzsC (cz c) (cz_th HO.out)) (all_oneCell_toArray (cz_one HO.out)) ?_;intro w3 B7 g3;have c7:=B7.cell 32;have c8:=B7.cell 68;simp only [List.getElem?_toArray] at c7 c8;rw [(cz_at c HO.out).1,HK.out] at c7;rw [(cz_at c HO.out).2.2.2.2.1] at c8;have Hg3:=hidden g3;clear B7 g3))
      go_ret;exact ⟨rfl,below_row (grow_trans b1 Hb2.out) Hg3.out (by have:=Hg6.out;have:=b1.size;omega)⟩
    · have HV:Hid (vDp true c= -1):=by simp [vDp,hk,Hid]
      rw [HV.out];have hk2:(c.kind == 2)=false:=by simp [hk]
      have HK:=hidden hk;clear hk HV;obtain ⟨k,hkk⟩:∃k,k=c.kind:=⟨_,rfl⟩;have HKK:=hidden hkk;rw [← hkk] at hk2;clear hkk;go_enter Tryz.func192,Tryz.ntmps192
      go_wp2_with (first
        |(go_at_call 75;refine HM.out.mono ?_;rintro e w' ⟨rfl,hx⟩;rw [hx];clear hx w')
        |(go_at_call 125;refine HA.out.mono ?_;rintro e w1 ⟨rfl,b1⟩)
        |((with_reducible refine at_ald 5 ?_);refine wpList_al _ rfl _ rfl _ zero_thC ?_;intro w2 b6 hg6 hl6 B6 b2;have HB6:=hidden B6;have Hg6:=hidden hg6;have Hb2:=hidden b2;clear B6 hg6 hl6 b2)
        |((with_reducible refine at_st 5 ?_);refine wpList_sto _ rfl _ _ _ rfl b6 _ (cz c).toArray rfl rfl HB6.out (xszC (cz c) (cz_th HO.out)) (xzsC (cz c) (cz_th HO.out)) (all_oneCell_toArray (cz_one HO.out)) ?_;intro w3 B7 g3;have c7:=B7.cell 32;simp only [List.getElem?_toArray] at c7;rw [(cz_at c HO.out).1,← HKK.out] at c7;have Hg3:=hidden g3;clear B7 g3))
      go_ret;exact ⟨rfl,below_row (grow_trans b1 Hb2.out) Hg3.out (by have:=Hg6.out;have:=b1.size;omega)⟩

def vRt (mk:Bool) (q:Nat) (c:Ce) (h:Int):Int:=if mk then (if h=0 then 0 else if q=0 then 7 else if 0<vDp mk c then 2 else 0) else 1

theorem root_any {ct:Int→Nat} {ca:Int→Ce} (V:Vw w v mk ct ca) (h:Int):Kc 112 #[v,.int .i64 h] w fun e w'=>e=.returned (.int .i64 (vRt mk (ct h) (ca h) h))∧Kb w w':=by
  have HM:=hidden (V.made w (Below.refl _ _));cases mk with
  | false=>
    clear V;go_enter Tryz.func112,Tryz.ntmps112
    go_wp2_with (go_at_call 75;refine HM.out.mono ?_;rintro e w' ⟨rfl,hx⟩;rw [hx];clear hx w')
    go_ret;exact ⟨rfl,Below.refl _ _⟩
  | true=>
    by_cases h0:h=0
    · subst h0
      have HV:Hid (vRt true (ct 0) (ca 0) 0=0):=rfl;rw [HV.out];clear V HV;go_enter Tryz.func112,Tryz.ntmps112
      go_wp2_with (go_at_call 75;refine HM.out.mono ?_;rintro e w' ⟨rfl,hx⟩;rw [hx];clear hx w')
      go_ret;exact ⟨rfl,Below.refl _ _⟩
    · have HH:=hidden (has_any V h)
      have HD:Hid (Kr w 192 #[v,.int .i64 h] (.int .i64 (vDp true (ca h)))):=fun w' hb=>depth_any (V.grow hb) h
      have hb0:(h == 0)=false:=by simp [h0]
      by_cases hq:0<ct h
      · have e1:decide (0<ct h)=true:=by simp [hq]
        rw [e1] at HH
        by_cases hd:0<vDp true (ca h)
        · have HV:Hid (vRt true (ct h) (ca h) h=2):=by simp [vRt,h0,hd,Hid];omega
          rw [HV.out];obtain ⟨q,hqq⟩:∃q,q=vDp true (ca h):=⟨_,rfl⟩;rw [← hqq] at HD hd;clear V HV h0 hq e1 hqq;go_enter Tryz.func112,Tryz.ntmps112
          go_wp2_with (first
            |(go_at_call 75;refine HM.out.mono ?_;rintro e w' ⟨rfl,hx⟩;rw [hx];clear hx w')
            |(go_at_call 191;refine HH.out.mono ?_;rintro e w1 ⟨rfl,b1⟩)
            |(go_at_call 192;refine (HD.out _ b1).mono ?_;rintro e w2 ⟨rfl,b2⟩))
          go_ret;exact ⟨rfl,grow_trans b1 b2⟩
        · have HV:Hid (vRt true (ct h) (ca h) h=0):=by simp [vRt,h0,hd,Hid];omega
          rw [HV.out];obtain ⟨q,hqq⟩:∃q,q=vDp true (ca h):=⟨_,rfl⟩;rw [← hqq] at HD hd;clear V HV h0 hq e1 hqq;go_enter Tryz.func112,Tryz.ntmps112
          go_wp2_with (first
            |(go_at_call 75;refine HM.out.mono ?_;rintro e w' ⟨rfl,hx⟩;rw [hx];clear hx w')
            |(go_at_call 191;refine HH.out.mono ?_;rintro e w1 ⟨rfl,b1⟩)
            |(go_at_call 192;refine (HD.out _ b1).mono ?_;rintro e w2 ⟨rfl,b2⟩))
          go_ret;exact ⟨rfl,grow_trans b1 b2⟩
      · have e1:decide (0<ct h)=false:=by simp [hq]
        rw [e1] at HH;have HV:Hid (vRt true (ct h) (ca h) h=7):=by simp [vRt,h0,Hid];omega
        rw [HV.out];clear V HV h0 hq e1 HD;go_enter Tryz.func112,Tryz.ntmps112
        go_wp2_with (first
          |(go_at_call 75;refine HM.out.mono ?_;rintro e w' ⟨rfl,hx⟩;rw [hx];clear hx w')
          |(go_at_call 191;refine HH.out.mono ?_;rintro e w1 ⟨rfl,b1⟩))
        go_ret;exact ⟨rfl,b1⟩

def vDg (mk:Bool) (ca:Int→Ce) (h:Int):Lq:=if mk=true∧h=0 then emD else (ca h).dig
theorem vDg_len {ct:Int→Nat} {ca:Int→Ce} (V:Vw w v mk ct ca) (h:Int):(vDg mk ca h).length=32∧Bytes (vDg mk ca h):=by
  unfold vDg;split
  · exact ⟨dig_length _,dig_bytes _⟩
  · exact ⟨(V.ok h).ld,(V.ok h).bd⟩

theorem sdig_any {ct:Int→Nat} {ca:Int→Ce} (V:Vw w v mk ct ca) (h:Int) (hL:Laid w):Kc 68 #[v,.int .i64 h] w fun e w'=>e=.returned (.agg (B (vDg mk ca h)))∧Kb w w':=by
  have HM:Hid (∀w',Kb w w'→Kc 75 #[v] w' fun e w''=>e=.returned (.bool mk)∧w''=w'):=V.made
  by_cases hc:mk=true∧h=0
  · obtain ⟨rfl,rfl⟩:=hc
    have HE:Hid (∀w',Kb w w'→Kc 124 #[] w' (DigPost [0] w')):=fun w' hb=>empty_any w' (hL.grow hb)
    have HD:Hid (vDg true ca 0=dig [0]):=rfl;have HSZ:Hid ((B (dig [0])).size=32):=by rw [B_size];exact dig_length _
    rw [HD.out];generalize hDD:dig [0]=D at HSZ ⊢;have HE':Hid (Kr w 124 #[] (.agg (B D))):=by rw [← hDD];exact HE
    clear HD V hL hDD HE;go_enter Tryz.func68,Tryz.ntmps68
    go_wp2_with (first
      |((with_reducible refine at_ald 4 ?_);refine wpList_al _ rfl _ rfl _ zero_hash ?_;intro w1 b4 hg4 hl4 B4 b1;have HB4:=hidden B4;have Hg4:=hidden hg4;clear B4 hg4 hl4)
      |(go_at_call 75;refine (HM.out _ b1).mono ?_;rintro e w' ⟨rfl,hx⟩;rw [hx];clear hx w')
      |(go_at_call 124;refine (HE'.out _ b1).mono ?_;rintro e w2 ⟨rfl,b2⟩;have B4':=hidden (HB4.out.grow b2);have Hb2:=hidden b2;clear b2)
      |((with_reducible refine at_st 4 ?_);refine wpList_sto _ rfl _ _ _ rfl b4 _ (B D) rfl rfl B4'.out (by rw [HSZ.out];exact size_hash) (by rw [HSZ.out,B_size];simp) (B_one _) ?_;intro w3 B5 g3))
    exact bodyPost_ret (v:=.agg (B D)) (results_cell_row rfl _ _ b4 _ _ _ _ rfl B5 Tryz.underlying36 rfl (by rw [HSZ.out];exact size_hash)) rfl ⟨rfl,below_row (grow_trans b1 Hb2.out) g3 Hg4.out⟩
  · have HA:Hid (Kr w 125 #[v,.int .i64 h] (.agg (cz (ca h)).toArray)):=fun w' hb=>V.atv w' h hb
    have hf:=fld_dig (ca h) (V.ok h);have HD:Hid (vDg mk ca h=(ca h).dig):=by simp [vDg,hc,Hid]
    have HSZ:Hid ((B (ca h).dig).size=32):=by rw [B_size];exact (V.ok h).ld
    rw [HD.out];obtain ⟨c,hcc⟩:∃c,c=ca h:=⟨_,rfl⟩;rw [← hcc] at HA hf HSZ;rw [← hcc];have hcase:(mk=false)∨(mk=true∧(h == 0)=false):=by
      cases mk with
      | false=>exact .inl rfl
      | true=>exact .inr ⟨rfl,by simpa using hc⟩
    clear HD V hL hcc hc;rcases hcase with rfl | ⟨rfl,hb0⟩
    all_goals
      go_enter Tryz.func68,Tryz.ntmps68
      go_wp2_with (first
        |((with_reducible refine at_ald 4 ?_);refine wpList_al _ rfl _ rfl _ zero_hash ?_;intro w1 b4 hg4 hl4 B4 b1;have HB4:=hidden B4;have Hg4:=hidden hg4;clear B4 hg4 hl4)
        |(go_at_call 75;refine (HM.out _ b1).mono ?_;rintro e w' ⟨rfl,hx⟩;rw [hx];clear hx w')
        |(go_at_call 125;refine (HA.out _ b1).mono ?_;rintro e w2 ⟨rfl,b2⟩;have B4':=hidden (HB4.out.grow b2);have Hb2:=hidden b2;clear b2)
        |((with_reducible refine at_st 4 ?_);refine wpList_sto _ rfl _ _ _ rfl b4 _ (B c.dig) rfl rfl B4'.out (by rw [HSZ.out];exact size_hash) (by rw [HSZ.out,B_size];simp) (B_one _) ?_;intro w3 B5 g3))
      exact bodyPost_ret (v:=.agg (B c.dig)) (results_cell_row rfl _ _ b4 _ _ _ _ rfl B5 Tryz.underlying36 rfl (by rw [HSZ.out];exact size_hash)) rfl ⟨rfl,below_row (grow_trans b1 Hb2.out) g3 Hg4.out⟩

end Go.Proofs.YtdjpigfibafokaaGreatDoor

namespace Go.Proofs.YtdjpigfibafokaaGreatDoor
variable {cs:Lz}
variable {fr pend:List Nat}
variable {fuel g gs i j n room:Nat}
variable {mk:Bool}
variable {v vf vp:Value}
variable {w w':World}
set_option maxHeartbeats 2000000
set_option maxRecDepth 20000
open Go.RowKit

theorem newS_ok (room:Nat) (w:World) (h1:1≤room) (h2:room≤65536):Kc 47 #[.int .i64 (room:Int)] w fun e w'=>∃g gs,e=.returned (.tuple #[.pointer (some ⟨g,0,none⟩),.int .i64 0])∧w.heap.size≤g∧w.heap.size≤gs∧Stm w' g gs (.slice none 0 0) (.slice none 0 0) room [] []∧Kb w w':=by
  have HN:=hidden (new_okC room w h1 h2);clear h1 h2;go_enter Tryz.func47,Tryz.ntmps47
  go_wp2_with (go_at_call 111;refine HN.out.mono ?_;rintro e w1 ⟨gs,rfl,hg,S1,b1⟩;have HS1:=hidden S1;have Hb1:=hidden b1;have Hg:=hidden hg;clear S1 b1 hg)
  go_ret2;exact ⟨w1.heap.size,gs,rfl,Hb1.out.size,Hg.out,⟨Blk.new _ _ _,HS1.out.mod (Mod.alloc _ _ []) (fun _ _ h=>by cases h),fun i=>by simp only [ce,List.getElem?_nil,Option.getD_none];exact ⟨[],Own.nil _ _⟩⟩,Hb1.out.trans ((grow_alloc w1 _).mono Hb1.out.size)⟩

theorem holdS_via (s:Stm w g gs vp vf room cs fr) (h q:Int) (P:World→Prop) (hc:Kc 171 #[.pointer (some ⟨gs,0,none⟩),.int .i64 h] w fun e w'=>e=.returned (.int .i64 q)∧P w'):Kc 96 #[.pointer (some ⟨g,0,none⟩),.int .i64 h] w fun e w'=>e=.returned (.int .i64 q)∧P w':=by
  have c0:=s.c0;have c1:=s.c1;have HC:=hidden hc;clear s hc;go_enter Tryz.func96,Tryz.ntmps96
  go_wp2_with (first
    |(go_at_call 75;refine (madeS_ok g _ c0).mono ?_;rintro e w' ⟨rfl,hx⟩;rw [hx];clear hx w')
    |(go_at_call 171;refine HC.out.mono ?_;rintro e w2 ⟨rfl,hp⟩;have HP:=hidden hp;clear hp))
  go_ret;exact ⟨rfl,HP.out⟩

def moreC (cs:Lz) (i:Nat):Lz:=cs.set i (cc cs i+1,ce cs i)
theorem moreC_ce (cs:Lz) (i j:Nat):ce (moreC cs i) j=ce cs j:=by
  unfold moreC
  by_cases hi:i<cs.length
  · rw [ce_set cs i j _ hi]
    split
    · next e=>rw [e]
    · rfl
  · rw [List.set_eq_of_length_le (by omega)]

theorem holdS_bad (s:Stm w g gs vp vf room cs fr) (h:Int) (hc:cot cs h=0):Kc 96 #[.pointer (some ⟨g,0,none⟩),.int .i64 h] w fun e w'=>e=.returned (.int .i64 7)∧w'=w:=
  holdS_via s h 7 _ (hold_badC gs vp vf room _ fr h w s.sl ((cot_out cs h).2 hc))
theorem holdS_ok (s:Stm w g gs vp vf room cs fr) (i:Nat) (h0:0<cc cs i) (h1:cc cs i<1073741824):Kc 96 #[.pointer (some ⟨g,0,none⟩),.int .i64 ((i:Int)+1)] w fun e w'=>e=.returned (.int .i64 0)∧STurn w g gs (stB g gs vp vf cs) room (moreC cs i) fr w':=by
  refine holdS_via s _ 0 _ ((hold_okC gs vp vf room _ fr _ i w s.sl rfl (by rw [cnt_pl];exact h0) (by rw [cnt_pl];exact h1)).mono ?_);rintro e w' ⟨rfl,t⟩;rw [cnt_pl,thg_pl cs i (cc_lt h0),map_set] at t;exact ⟨rfl,s.turn' (Below.refl _ _) t (fun j=>.inr ⟨j,by show (ce (moreC cs i) j).val=_;rw [moreC_ce],by show (ce (moreC cs i) j).bs=_;rw [moreC_ce]⟩)⟩

theorem occS_ok (s:Stm w g gs vp vf room cs fr):Kc 21 #[.pointer (some ⟨g,0,none⟩)] w fun e w'=>e=.returned (.int .i64 (noc cs:Int))∧Kb w w':=by
  have c0:=s.c0;have c1:=s.c1;have HC:=hidden (len_okC gs vp vf room _ fr w s.sl);clear s;go_enter Tryz.func21,Tryz.ntmps21
  go_wp2_with (first
    |(go_at_call 75;refine (madeS_ok g _ c0).mono ?_;rintro e w' ⟨rfl,hx⟩;rw [hx];clear hx w')
    |(go_at_call 76;refine HC.out.mono ?_;rintro e w1 ⟨rfl,b1⟩))
  go_ret;exact ⟨rfl,b1⟩

theorem roomS_ok (s:Stm w g gs vp vf room cs fr):Kc 121 #[.pointer (some ⟨g,0,none⟩)] w fun e w'=>e=.returned (.int .i64 (room:Int))∧Kb w w':=by
  have c0:=s.c0;have c1:=s.c1;have HC:=hidden (room_okC gs vp vf room _ fr w s.sl);clear s;go_enter Tryz.func121,Tryz.ntmps121
  go_wp2_with (first
    |(go_at_call 75;refine (madeS_ok g _ c0).mono ?_;rintro e w' ⟨rfl,hx⟩;rw [hx];clear hx w')
    |(go_at_call 203;refine HC.out.mono ?_;rintro e w' ⟨rfl,hx⟩;rw [hx];clear hx w'))
  go_ret;exact ⟨rfl,Below.refl _ _⟩

theorem may_any {ct:Int→Nat} {ca:Int→Ce} (V:Vw w v mk ct ca) (h:Int):Kc 266 #[v,.int .i64 h] w fun e w'=>e=.returned (.bool (decide (h=0∨(ca h).ab<ct h)))∧Kb w w':=by
  have HH:=hidden (held_any V h)
  by_cases h0:h=0
  · subst h0
    have e0:decide ((0:Int)=0∨(ca 0).ab<ct 0)=true:=by simp
    rw [e0];clear V e0;go_enter Tryz.func266,Tryz.ntmps266
    go_wp2
    go_ret;exact ⟨rfl,Below.refl _ _⟩
  · have hb0:(h == 0)=false:=by simp [h0]
    have e0:decide (h=0∨(ca h).ab<ct h)=decide (0<ct h-(ca h).ab):=by
      have:(h=0∨(ca h).ab<ct h)↔(0<ct h-(ca h).ab):=by omega
      simp [this]
    rw [e0];obtain ⟨q,hq⟩:∃q,q=ct h-(ca h).ab:=⟨_,rfl⟩;rw [← hq] at HH;rw [← hq];have e1:decide ((0:Int)<(q:Int))=decide (0<q):=by simp
    clear V e0 h0 hq;go_enter Tryz.func266,Tryz.ntmps266
    go_wp2_with (go_at_call 172;refine HH.out.mono ?_;rintro e w1 ⟨rfl,b1⟩)
    go_ret;exact ⟨rfl,b1⟩

theorem wpList_ldw {ops:Array Oper} {rest:List Oper} {op:Oper} {a:Act} {Q:Exit→Act→World→Prop} (w:World) (hgd:Region.wanted op (yielded ops a.tmps)=true) (ty:TypeId) (x:Operand) (ho:op.op=.load ty x)
    (b o:Nat) (hx:a.eval x=.pointer (some ⟨b,o,none⟩)) (cs:List Value) (d:TypeDesc) (hc:w.rangeAt b o cs) (hu:Tryz.prog.underlying ty=some d) (hd:d.isRow=true) (hi:(Tryz.prog.info? ty).map (·.size)=some cs.length)
    (h:wpList Tryz.prog ops Q rest (a.put op.dst (.agg cs.toArray)) w):wpList Tryz.prog ops Q (op::rest) a w:=
  BigFrame.wpList_want hgd fun _ hK=>wp_load_mid ty x ho b o hx cs d hc hu hd hi (hK _ _ h)

def fsP (c:Ce) (d:Nat) (b:Int):Bool:=if c.kind=1 then decide (kb c.key d=b) else if c.kind=2 then decide (c.dp=d+1) && decide (kb c.key d=b) else true

theorem key_sz {c:Ce} (h:CeOk c):(Tryz.prog.info? 63).map (·.size)=some (c.key.map (Value.int .u8)).length:=by rw [List.length_map,h.hk.1];exact size_path

theorem fits_any (c:Ce) (d:Nat) (b:Int) (w:World) (hc:CeOk c) (hd:d<256):Kc 303 #[.agg (cz c).toArray,.int .i64 (d:Int),.int .i64 b] w fun e w'=>e=.returned (.bool (fsP c d b))∧Kb w w':=by
  have HO:=hidden hc;have HB:Hid (∀w',Kc 180 #[.agg (B c.key),.int .i64 (d:Int)] w' fun e w''=>e=.returned (.int .i64 (kb c.key d))∧Below w'.heap.size w' w''):=fun w'=>bit_in c.key d w' hc.hk hd
  obtain ⟨x,hx⟩:∃x,x=kb c.key d:=⟨_,rfl⟩;rw [← hx] at HB;have hw1:wrap64 ((d:Int)+1)=(d:Int)+1:=Go.IntWalk.wrap64_in _ (by omega)
  by_cases h1:c.kind=1
  · have HV:Hid (fsP c d b=(x == b)):=by
      show _=_;rw [fsP,if_pos h1,← hx]
      by_cases e:x=b <;> simp [e]
    rw [HV.out];have HK:=hidden h1;clear HV h1 hc hx hd hw1;go_enter Tryz.func303,Tryz.ntmps303
    go_wp2_with (first
      |((with_reducible refine at_bxd 3 ?_);refine wpList_bx _ rfl _ _ rfl _ rfl ?_;intro w1 b3 hg3 hl3 B3 b1;have HB3:=hidden B3;have c7:=B3.cell 32;simp only [List.getElem?_toArray] at c7;rw [(cz_at c HO.out).1,HK.out] at c7;clear hg3 hl3 B3)
      |((with_reducible refine at_ldd 12 11 ?_);refine wpList_load_mid rfl _ _ rfl b3 35 rfl (c.key.map (Value.int .u8)) _ ((segK c HO.out).range HB3.out) Tryz.underlying63 rfl (key_sz HO.out) ?_)
      |(go_at_call 180;refine (HB.out _).mono ?_;rintro e w2 ⟨rfl,b2⟩))
    go_ret;exact ⟨rfl,grow_trans b1 b2⟩
  · have n1:(c.kind == 1)=false:=by simp [h1]
    by_cases h2:c.kind=2
    · by_cases h3:c.dp=d+1
      · have HV:Hid (fsP c d b=(x == b)):=by
          show _=_;rw [fsP,if_neg h1,if_pos h2,← hx]
          by_cases e:x=b <;> simp [e,h3]
        rw [HV.out];have HK:=hidden h2;have HD:Hid ((c.dp:Int)=(d:Int)+1):=by show (c.dp:Int)=_;omega
        clear HV h1 n1 h2 h3 hc hx hd;go_enter Tryz.func303,Tryz.ntmps303
        go_wp2_with (first
          |((with_reducible refine at_bxd 3 ?_);refine wpList_bx _ rfl _ _ rfl _ rfl ?_;intro w1 b3 hg3 hl3 B3 b1;have HB3:=hidden B3;have c7:=B3.cell 32;have c8:=B3.cell 68;simp only [List.getElem?_toArray] at c7 c8;rw [(cz_at c HO.out).1,HK.out] at c7;rw [(cz_at c HO.out).2.2.2.2.1,HD.out] at c8;clear hg3 hl3 B3)
          |((with_reducible refine at_ldd 26 25 ?_);refine wpList_ldw _ rfl _ _ rfl b3 35 rfl (c.key.map (Value.int .u8)) _ ((segK c HO.out).range HB3.out) Tryz.underlying63 rfl (key_sz HO.out) ?_)
          |(go_at_call 180;refine (HB.out _).mono ?_;rintro e w2 ⟨rfl,b2⟩))
        go_ret;exact ⟨rfl,grow_trans b1 b2⟩
      · have HV:Hid (fsP c d b=false):=by
          show _=_;rw [fsP,if_neg h1,if_pos h2];simp [h3]
        rw [HV.out];have HK:=hidden h2;have hd1:((c.dp:Int) == (d:Int)+1)=false:=by simp;omega
        clear HV h1 n1 h2 h3 hc hx hd HB;go_enter Tryz.func303,Tryz.ntmps303
        go_wp2_with (first
          |((with_reducible refine at_bxd 3 ?_);refine wpList_bx _ rfl _ _ rfl _ rfl ?_;intro w1 b3 hg3 hl3 B3 b1;have c7:=B3.cell 32;have c8:=B3.cell 68;simp only [List.getElem?_toArray] at c7 c8;rw [(cz_at c HO.out).1,HK.out] at c7;rw [(cz_at c HO.out).2.2.2.2.1] at c8;clear hg3 hl3 B3))
        go_ret;exact ⟨rfl,b1⟩
    · have n2:(c.kind == 2)=false:=by simp [h2]
      have HV:Hid (fsP c d b=true):=by
        show _=_;rw [fsP,if_neg h1,if_neg h2]
      rw [HV.out];obtain ⟨k,hk⟩:∃k,k=c.kind:=⟨_,rfl⟩;have HK:=hidden hk;rw [← hk] at n1 n2;clear HV h1 h2 hc hx hd HB hk;go_enter Tryz.func303,Tryz.ntmps303
      go_wp2_with (first
        |((with_reducible refine at_bxd 3 ?_);refine wpList_bx _ rfl _ _ rfl _ rfl ?_;intro w1 b3 hg3 hl3 B3 b1;have c7:=B3.cell 32;simp only [List.getElem?_toArray] at c7;rw [(cz_at c HO.out).1,← HK.out] at c7;clear hg3 hl3 B3))
      go_ret;exact ⟨rfl,b1⟩

end Go.Proofs.YtdjpigfibafokaaGreatDoor

namespace Go.Proofs.YtdjpigfibafokaaGreatDoor
variable {cs:Lz}
variable {fr pend:List Nat}
variable {fuel g gs i j n room:Nat}
variable {mk:Bool}
variable {v vf vp:Value}
variable {w w':World}
set_option maxHeartbeats 2000000
set_option maxRecDepth 20000
open Go Go.RowKit

section
variable {P:Program} {ops:Array Oper} {Q:Exit→Act→World→Prop} {md:Region.Mode} {S:World→Prop} {L:Nat}

def shutB (md:Region.Mode) (ops:Array Oper) (listed:Array Bool):Bool:=
  (List.range ops.size).all fun c=>!listed.getD c false || match ops[c]? with
    | none=>true
    | some o=>o.after.all fun e=>!Region.binds md e || listed.getD e.on false
def ShutL (md:Region.Mode) (ops:Array Oper) (listed:Array Bool):Prop:=∀c o,ops[c]?=some o→listed.getD c false=true→∀e∈o.after,Region.binds md e=true→listed.getD e.on false=true
theorem shutL_of {listed:Array Bool} (h:shutB md ops listed=true):ShutL md ops listed:=by
  intro c o ho hl e he hb;unfold shutB at h;rw [List.all_eq_true] at h;have h1:=h c (List.mem_range.2 (Array.getElem?_eq_some_iff.1 ho).1);simp only [hl,ho,Bool.not_true,Bool.false_or,Array.all_eq_true_iff_forall_mem] at h1;have h2:=h1 e he;simpa [hb] using h2
theorem ShutL.step {listed:Array Bool} (h:ShutL md ops listed) (hj:j∈Region.ready md ops listed):ShutL md ops (listed.setIfInBounds j true):=by
  intro c o ho hl e he hb
  by_cases hcj:j=c
  · subst hcj
    obtain ⟨_,o',ho',hall⟩:=mem_ready.1 hj;rw [ho] at ho';obtain rfl:=Option.some.inj ho';exact getD_set_true (hall e he hb)
  · rw [getD_set_ne false hcj] at hl
    exact getD_set_true (h c o ho hl e he hb)

def leads (md:Region.Mode) (ops:Array Oper) (i:Nat):Nat→Nat→Bool
  | 0,_=>false
  | n+1,c=>match ops[c]? with
    | none=>false
    | some o=>o.after.any fun e=>Region.binds md e && (e.on == i || leads md ops i n e.on)
theorem leads_on {listed:Array Bool} {i:Nat} (hs:ShutL md ops listed) (hi:listed.getD i false=false):∀(n c:Nat),leads md ops i n c=true→∀o,ops[c]?=some o→(∀e∈o.after,Region.binds md e=true→listed.getD e.on false=true)→False
  | 0,_,h,_,_,_=>by simp [leads] at h
  | n+1,c,h,o,ho,hall=>by
    unfold leads at h;rw [ho] at h;obtain ⟨e,he,hb⟩:=Array.any_eq_true'.1 h;simp only [Bool.and_eq_true,Bool.or_eq_true,beq_iff_eq] at hb;have h1:=hall e he hb.1;rcases hb.2 with q | q
    · rw [q,hi] at h1
      cases h1
    · cases ho2:ops[e.on]? with
      | none=>
        cases n with
        | zero=>simp [leads] at q
        | succ n=>unfold leads at q;rw [ho2] at q;cases q
      | some o2=>exact leads_on hs hi n e.on q o2 ho2 (hs e.on o2 ho2 h1)

def wpAnyL (P:Program) (md:Region.Mode) (ops:Array Oper) (Q:Exit→Act→World→Prop) (S:World→Prop) (L:Nat):Nat→Array Bool→Act→World→Prop
  | 0,listed,a,w=>Region.ready md ops listed=[]∧Q .normal a w
  | fuel+1,listed,a,w=>
    (Region.ready md ops listed=[]→Q .normal a w)∧
    ∀i∈Region.ready md ops listed,wpOp P ops Q i (fun a' w'=>(i=L∨S w')∧wpAnyL P md ops Q S L fuel (listed.setIfInBounds i true) a' w') a w

theorem wpAny_of_last:∀(fuel:Nat) (listed:Array Bool) (a:Act) (w:World),wpAnyL P md ops Q S L fuel listed a w→wpAny P md ops Q fuel listed a w
  | 0,_,_,_,h=>h
  | fuel+1,_,_,_,h=>⟨h.1,fun i hi=>wpOp_mono (fun a' w' h'=>wpAny_of_last fuel _ a' w' h'.2) (h.2 i hi)⟩

theorem wpAnyL_first {oi:Oper} (hi:ops[i]?=some oi) (hsel:∀(j:Nat) (o:Oper) cs b,ops[j]?=some o→o.op≠.select cs b)
    (hQ:∀c a w,Q (.panic c) (a.put oi.dst v) w→Q (.panic c) a w) (hld:leads md ops i n L=true):
    ∀(fuel:Nat) (listed:Array Bool) (a:Act) (w:World),ShutL md ops listed→
      (∀j oj,ops[j]?=some oj→j≠i→listed.getD j true=false→(∀e∈oj.after,Region.binds md e=true→e.on≠i)→oi.apart ops oj=true)→
      i∈Region.ready md ops listed→YieldsIf P ops S oi v a→S w→
      wpAnyL P md ops Q S L fuel (listed.setIfInBounds i true) (a.put oi.dst v) w→wpAnyL P md ops Q S L (fuel+1) listed a w:=by
  intro fuel;induction fuel with
  | zero=>
    intro listed a w _ _ hr hy hS H;refine ⟨fun h=>(by rw [h] at hr;cases hr),fun j hj=>?_⟩
    by_cases hji:j=i
    · subst hji;exact hy.wpOp hi hS ⟨.inr hS,H⟩
    · have:=ready_mono hj hji
      rw [H.1] at this;cases this
  | succ fuel ih=>
    intro listed a w hsh hfree hr hy hS H;refine ⟨fun h=>(by rw [h] at hr;cases hr),fun j hj=>?_⟩
    by_cases hji:j=i
    · subst hji;exact hy.wpOp hi hS ⟨.inr hS,H⟩
    · have h1:=H.2 j (ready_mono hj hji)
      obtain ⟨hjun,oj,hoj,hall⟩:=mem_ready.1 hj;have hi0:listed.getD i false=false:=by
        have h0:=(mem_ready.1 hr).1;rcases Nat.lt_or_ge i listed.size with h' | h'
        · simpa [h'] using h0
        · simp [Array.getElem?_eq_none h']
      have hjL:j≠L:=fun e=>by
        subst e;exact leads_on hsh hi0 n j hld oj hoj hall
      have hnot:∀e∈oj.after,Region.binds md e=true→e.on≠i:=fun e he hb heq=>by
        have h1:=hall e he hb;rw [heq,hi0] at h1;cases h1
      have h2:=wpOp_putIf hoj (hfree j oj hoj hji hjun hnot) (fun cs b=>hsel i oi cs b hi) (fun cs b=>hsel j oj cs b hoj) hQ hy h1;have hfree':∀k ok,ops[k]?=some ok→k≠i→(listed.setIfInBounds j true).getD k true=false→
          (∀e∈ok.after,Region.binds md e=true→e.on≠i)→oi.apart ops ok=true:=fun k ok hk hki hun hno=>by
        refine hfree k ok hk hki ?_ hno
        by_cases hjk:j=k
        · subst hjk;exact hjun
        · rw [getD_set_ne true hjk] at hun;exact hun
      refine wpOp_mono (fun a' w' h3=>⟨h3.2.1,ih (listed.setIfInBounds j true) a' w' (hsh.step hj) hfree' (ready_mono hr (Ne.symm hji)) h3.1 (h3.2.1.resolve_left hjL) ?_⟩) h2;rw [Array.setIfInBounds_comm _ _ hji];exact h3.2.2

theorem wpAnyL_take {oi:Oper} {listed:Array Bool} {a:Act} (hi:ops[i]?=some oi)
    (hs:Region.noSelect ops=true) (hf:Region.free md ops listed i=true) (hr:(Region.ready md ops listed).contains i=true) (hld:leads md ops i 40 L=true) (hsh:shutB md ops listed=true)
    (hQ:∀c a w,Q (.panic c) (a.put oi.dst v) w→Q (.panic c) a w) (hy:YieldsIf P ops S oi v a) (hS:S w)
    (h:wpAnyL P md ops Q S L fuel (listed.setIfInBounds i true) (a.put oi.dst v) w):wpAnyL P md ops Q S L (fuel+1) listed a w:=
  wpAnyL_first hi (Region.noSelect_spec hs) hQ hld fuel listed a w (shutL_of hsh) (Region.free_spec hi hf) (by simpa using hr) hy hS h

theorem tlp (i:Nat) (v:Value) {oi:Oper} {fuel:Nat} {listed:Array Bool} {a:Act} {w:World} (hS:S w) (h:wpAnyL P md ops Q S L fuel (listed.setIfInBounds i true) (a.put oi.dst v) w)
    (hi:ops[i]?=some oi:=by rfl) (hs:Region.noSelect ops=true:=by kernel_rfl) (hf:Region.free md ops listed i=true:=by kernel_rfl) (hr:(Region.ready md ops listed).contains i=true:=by kernel_rfl) (hld:leads md ops i 40 L=true:=by kernel_rfl) (hsh:shutB md ops listed=true:=by kernel_rfl)
    (hQ:∀c a w,Q (.panic c) (a.put oi.dst v) w→Q (.panic c) a w:=by exact fun _ _ _ h=>h) (hy:YieldsIf P ops S oi v a:=by exact Or.inl ⟨by rfl,fun w hS=>by go_simp⟩):wpAnyL P md ops Q S L (fuel+1) listed a w:=wpAnyL_take hi hs hf hr hld hsh hQ hy hS h
theorem tlg (i:Nat) (v:Value) {oi:Oper} {fuel:Nat} {listed:Array Bool} {a:Act} {w:World} (hi:ops[i]?=some oi) (hy:YieldsIf P ops S oi v a) (hS:S w) (h:wpAnyL P md ops Q S L fuel (listed.setIfInBounds i true) (a.put oi.dst v) w)
    (hs:Region.noSelect ops=true:=by kernel_rfl) (hf:Region.free md ops listed i=true:=by kernel_rfl) (hr:(Region.ready md ops listed).contains i=true:=by kernel_rfl) (hld:leads md ops i 40 L=true:=by kernel_rfl) (hsh:shutB md ops listed=true:=by kernel_rfl)
    (hQ:∀c a w,Q (.panic c) (a.put oi.dst v) w→Q (.panic c) a w:=by exact fun _ _ _ h=>h):wpAnyL P md ops Q S L (fuel+1) listed a w:=wpAnyL_take hi hs hf hr hld hsh hQ hy hS h

def AllReadyL (P:Program) (md:Region.Mode) (ops:Array Oper) (Q:Exit→Act→World→Prop) (S:World→Prop) (L:Nat) (fuel:Nat) (listed:Array Bool) (a:Act) (w:World) (rs:List Nat):Prop:=
  ∀i∈rs,wpOp P ops Q i (fun a' w'=>(i=L∨S w')∧wpAnyL P md ops Q S L fuel (listed.setIfInBounds i true) a' w') a w
theorem AllReadyL.nil {listed:Array Bool} {a:Act}:AllReadyL P md ops Q S L fuel listed a w []:=fun _ h=>by cases h
theorem AllReadyL.cons {listed:Array Bool} {a:Act} {o:Oper} {rs:List Nat} (ho:ops[i]?=some o)
    (h:∀K':Act→World→Prop,Shut (∀a w,(i=L∨S w)→(S w→wpAnyL P md ops Q S L fuel (listed.setIfInBounds i true) a w)→(i=L→wpAnyL P md ops Q S L fuel (listed.setIfInBounds i true) a w)→K' a w)→if Region.wanted o (yielded ops a.tmps)=true then Oper.wp P o a w K' Q else K' (a.put o.dst undef) w)
    (hs:AllReadyL P md ops Q S L fuel listed a w rs):AllReadyL P md ops Q S L fuel listed a w (i::rs):=fun j hj=>by
  rcases List.mem_cons.1 hj with rfl | hj
  · exact wpOp_step ho (fun K' hK=>h K' (fun a w hS hW hL=>hK a w ⟨hS,hS.elim hL hW⟩))
  · exact hs j hj

theorem wpAnyL_ready {rs:List Nat} {listed:Array Bool} {a:Act} (hr:Region.ready md ops listed=rs) (hne:rs≠[])
    (h:AllReadyL P md ops Q S L fuel listed a w rs):wpAnyL P md ops Q S L (fuel+1) listed a w:=⟨fun h0=>absurd (hr ▸ h0) hne,hr ▸ h⟩

theorem wpAnyL_one {listed:Array Bool} {a:Act} {o:Oper} (ho:ops[i]?=some o) (hr:Region.ready md ops listed=[i])
    (h:∀K':Act→World→Prop,Shut (∀a w,S w→(S w→wpAnyL P md ops Q S L fuel (listed.setIfInBounds i true) a w)→K' a w)→if Region.wanted o (yielded ops a.tmps)=true then Oper.wp P o a w K' Q else K' (a.put o.dst undef) w):
    wpAnyL P md ops Q S L (fuel+1) listed a w:=
  wpAnyL_ready hr (by simp) (AllReadyL.cons ho (fun K' hK=>h K' (fun a w hS hW=>hK.out a w (.inr hS) hW (fun _=>hW hS))) AllReadyL.nil)

theorem wpAnyL_last {listed:Array Bool} {a:Act} {o:Oper} (ho:ops[L]?=some o) (hr:Region.ready md ops listed=[L]) (he:Region.ready md ops (listed.setIfInBounds L true)=[])
    (h:∀K':Act→World→Prop,Shut (∀a w,Q .normal a w→K' a w)→if Region.wanted o (yielded ops a.tmps)=true then Oper.wp P o a w K' Q else K' (a.put o.dst undef) w):
    wpAnyL P md ops Q S L (fuel+1) listed a w:=
  wpAnyL_ready hr (by simp) (AllReadyL.cons ho (fun K' hK=>h K' (fun a w hQ=>by
    have hd:wpAnyL P md ops Q S L fuel (listed.setIfInBounds L true) a w:=by
      cases fuel with
      | zero=>exact ⟨he,hQ⟩
      | succ n=>exact ⟨fun _=>hQ,by rw [he];simp⟩
    exact hK.out a w (.inl rfl) (fun _=>hd) (fun _=>hd))) AllReadyL.nil)

theorem wp_region_last {id:Nat} {a:Act} (L:Nat) (hm:P.follows .mixedOrders=true) (hS:S w.drew)
    (h:S w.drew→wpAnyL P .any ops Q S L ops.size (Array.replicate ops.size false) a w.drew):(Code.region id ops true).wp P Q a w:=
  wp_region_any hm (wpAny_of_last _ _ _ _ (h hS))

end
end Go.Proofs.YtdjpigfibafokaaGreatDoor
