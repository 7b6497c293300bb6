/- More calls of a slab, of things of type store.cell, as contracts: Hold, Drop. -/
import Derived.Test.YtdjpigfibafokaaGreatDoorDz01
import Derived.Test.YtdjpigfibafokaaGreatDoorDz07
import Derived.Deep.RegionHeld2
import Derived.Test.YtdjpigfibafokaaGreatDoorDz06
namespace Go.Proofs.YtdjpigfibafokaaGreatDoor
set_option maxHeartbeats 2000000
set_option maxRecDepth 20000
open Go.RowKit

theorem hold_badC (g:Nat) (vp vf:Value) (room:Nat) (ps:List Pl) (fr:List Nat) (slot:Int) (w:World) (h:SlC w g vp vf room ps fr) (hv:Vac ps slot):Kc 171 #[.pointer (some ⟨g,0,none⟩),.int .i64 slot] w fun e w'=>e=.returned (.int .i64 7)∧w'=w:=by
  have HS:=hidden h;have HV:=hidden hv;clear h hv;go_enter Tryz.func171,Tryz.ntmps171
  go_wp2_with (go_at_call 208;refine (at_badC g vp vf room ps fr slot _ HS.out HV.out).mono ?_;rintro e w' ⟨rfl,rfl⟩)
  go_ret;exact ⟨rfl,rfl⟩

theorem hold_okC (g:Nat) (vp vf:Value) (room:Nat) (ps:List Pl) (fr:List Nat) (slot:Int) (i:Nat) (w:World) (h:SlC w g vp vf room ps fr) (hs:slot=(i:Int)+1) (hi:0<cnt ps i) (hc:cnt ps i<1073741824):Kc 171 #[.pointer (some ⟨g,0,none⟩),.int .i64 slot] w fun e w'=>e=.returned (.int .i64 0)∧TurnC w g (slB g vp vf) room (ps.set i (cnt ps i+1,thg ps i)) fr w':=by
  have HS:=hidden h;have HI:=hidden hi;have HE:=hidden hs;have c2:=h.c2;obtain ⟨gp,c,rfl,c4,hil,j0,j1,hw,hm⟩:=h.at i hi;have HIL:=hidden hil;have hle:=h.inv.most i;obtain ⟨q,hq⟩:∃q,q=cnt ps i:=⟨_,rfl⟩;rw [← hq] at c4 hle;have HQ:=hidden hq;rw [← hq];have hne:((q:Int) == 1073741824)=false:=by simp;omega
  have f4:=lst_frozen h.pls (i * (71+1));have hw1:wrap64 ((q:Int)+1)=((q+1:Nat):Int):=by rw [Go.IntWalk.wrap64_in _ (by omega)];rfl
  have HC:Hid (q+1≤1073741824):=by show q+1≤1073741824;omega
  clear h hs hi hc hq hle;go_enter Tryz.func171,Tryz.ntmps171
  go_wp2_with (first
    |(go_at_call 208;refine (at_okC g _ vf room ps fr slot i _ HS.out HE.out HI.out).mono ?_;rintro e w' ⟨rfl,rfl⟩))
  go_ret;have h:=HS.out;have hl2:=lst_set h.pls (i * (71+1)) (.int .i64 ((q+1:Nat):Int));rw [flatS_setCount h.wid i (q+1) HIL.out] at hl2;have m2:Mod [gp] w' (w'.setCell ⟨gp,i * (71+1),none⟩ (.int .i64 ((q+1:Nat):Int))):=Mod.setCell _ _ _ _ (by simp);obtain ⟨t1,t2⟩:=h.wid.at i HIL.out;refine ⟨rfl,_,_,⟨h.toSmC.over m2 (ps':=ps.set i (q+1,thg ps i)) (by rw [List.length_set];exact hl2) (h.wid.set i _ _ t1 t2),h.inv.held HI.out (by omega) HC.out _⟩,m2.mono (fun k hk=>by simp at hk;exact slB_mem.2 (.inr (.inl (by rw [hk];rfl)))),New.refl _ _⟩

theorem drop_moreC (g:Nat) (vp vf:Value) (room:Nat) (ps:List Pl) (fr:List Nat) (slot:Int) (i:Nat) (w:World) (h:SlC w g vp vf room ps fr) (hs:slot=(i:Int)+1) (hi:0<cnt ps i) (hc:1<cnt ps i):Kc 173 #[.pointer (some ⟨g,0,none⟩),.int .i64 slot] w fun e w'=>e=.returned (.tuple #[.bool false,.int .i64 0])∧TurnC w g (slB g vp vf) room (ps.set i (cnt ps i-1,thg ps i)) fr w':=by
  have HS:=hidden h;have HI:=hidden hi;have HE:=hidden hs;have c2:=h.c2;obtain ⟨gp,c,rfl,c4,hil,j0,j1,hw,hm⟩:=h.at i hi;have HIL:=hidden hil;have hle:=h.inv.most i;obtain ⟨q,hq⟩:∃q,q=cnt ps i:=⟨_,rfl⟩;rw [← hq] at c4 hle;have HQ:=hidden hq;rw [← hq];obtain ⟨r,hr⟩:∃r,q=r+1:=⟨q-1,by omega⟩;subst hr;have f4:=lst_frozen h.pls (i * (71+1));have hw1:wrap64 (r:Int)=(r:Int):=Go.IntWalk.wrap64_in _ (by omega);have r0:(0:Int)<(r:Int):=by omega
  have c5:(w.setCell ⟨gp,i * (71+1),none⟩ (.int .i64 (r:Int))).cell? ⟨g,2,none⟩=some (.slice (some ⟨gp,0,none⟩) ps.length c):=by
    rw [cell_set_ne _ _ _ _ _ _ (fun e=>lst_blk_ne h.pls h.blk tne1C (by rw [e];rfl))];exact c2
  have c6:(w.setCell ⟨gp,i * (71+1),none⟩ (.int .i64 (r:Int))).cell? ⟨gp,i * (71+1),none⟩=some (.int .i64 (r:Int)):=World.cell?_setCell_same' _ _ _ (by rw [c4];rfl);have HC:Hid (r≤1073741824∧0<r):=by show r≤1073741824∧0<r;omega
  clear h hs hi hc hq hle;go_enter Tryz.func173,Tryz.ntmps173
  go_wp2_with (first
    |(go_at_call 208;refine (at_okC g _ vf room ps fr slot i _ HS.out HE.out HI.out).mono ?_;rintro e w' ⟨rfl,rfl⟩))
  go_ret2;have h:=HS.out;have hl2:=lst_set h.pls (i * (71+1)) (.int .i64 (r:Int));rw [flatS_setCount h.wid i r HIL.out] at hl2;have m2:Mod [gp] w' (w'.setCell ⟨gp,i * (71+1),none⟩ (.int .i64 (r:Int))):=Mod.setCell _ _ _ _ (by simp);obtain ⟨t1,t2⟩:=h.wid.at i HIL.out;refine ⟨rfl,_,_,⟨h.toSmC.over m2 (ps':=ps.set i (r+1-1,thg ps i)) (by rw [List.length_set];exact hl2) (h.wid.set i _ _ t1 t2),h.inv.held HI.out (by have:=HC.out.2;omega) (by have:=HC.out.1;omega) _⟩,m2.mono (fun k hk=>by simp at hk;exact slB_mem.2 (.inr (.inl (by rw [hk];rfl)))),New.refl _ _⟩

theorem zaggC:Value.agg Tryz.zeroCells288=Value.agg (Value.int .i64 0::zcl).toArray:=by kernel_rfl

theorem drop_lastC (g:Nat) (vp vf:Value) (room:Nat) (ps:List Pl) (fr:List Nat) (slot:Int) (i:Nat) (w:World) (h:SlC w g vp vf room ps fr) (hs:slot=(i:Int)+1) (hi:0<cnt ps i) (hc:cnt ps i=1):Kc 173 #[.pointer (some ⟨g,0,none⟩),.int .i64 slot] w fun e w'=>e=.returned (.tuple #[.bool true,.int .i64 0])∧TurnC w g (slB g vp vf) room (ps.set i (0,zcl)) (fr++[i+1]) w':=by
  have HS:=hidden h;have HI:=hidden hi;have HE:=hidden hs;have c2:=h.c2;obtain ⟨gp,c,rfl,c4,hil,j0,j1,hw,hm⟩:=h.at i hi;have HIL:=hidden hil;rw [hc] at c4;have f4:=lst_frozen h.pls (i * (71+1));have hl1:=lst_set h.pls (i * (71+1)) (.int .i64 0);have m1:Mod [gp] w (w.setCell ⟨gp,i * (71+1),none⟩ (.int .i64 0)):=Mod.setCell _ _ _ _ (by simp);have hfs:=flatS_setCount h.wid i 0 hil;rw [show ((0:Nat):Int)=0 from rfl] at hfs;rw [hfs] at hl1;obtain ⟨t1,t2⟩:=h.wid.at i hil;have HM1:=hidden (h.toSmC.over m1 (ps':=ps.set i (0,thg ps i)) (by rw [List.length_set];exact hl1) (h.wid.set i _ _ t1 t2));have HMd:=hidden m1;have c5:=HM1.out.c2;have c6:(w.setCell ⟨gp,i * (71+1),none⟩ (.int .i64 0)).cell? ⟨gp,i * (71+1),none⟩=some (.int .i64 0):=World.cell?_setCell_same' _ _ _ (by rw [c4];rfl);have HL:=hidden hl1;have HFR:Hid (fr.length+1≤65537):=by
    show fr.length+1≤65537;have:=h.inv.frlen;omega
  clear h hs hi hc hl1 m1 hfs t1 t2;go_enter Tryz.func173,Tryz.ntmps173
  go_wp2_with (first
    |(go_at_call 208;refine (at_okC g _ vf room ps fr slot i _ HS.out HE.out HI.out).mono ?_;rintro e w' ⟨rfl,rfl⟩)
    |((with_reducible refine at_st 43 ?_);refine wpList_stl _ rfl _ _ _ rfl 288 (71+1) ps.length c gp (i * (71+1)) (flatS (ps.set i (0,thg ps i))) (Value.int .i64 0::zcl) rfl zaggC HL.out size_plC (by have:=Nat.mul_le_mul_right (71+1) (show i+1≤ps.length from HIL.out);rw [Nat.add_mul,Nat.one_mul] at this;exact this) zoneC ?_;intro w2 hl2 m2 sz2;have hs2:=flatS_setPlace HM1.out.wid i 0 zcl (by rw [List.length_set];exact HIL.out) rfl;rw [show ((0:Nat):Int)=0 from rfl,List.set_set] at hs2;rw [hs2] at hl2;have HM2:=hidden (HM1.out.over m2 (ps':=ps.set i (0,zcl)) (by rw [List.length_set];exact hl2) (HS.out.wid.set i _ _ rfl (fun u hu=>zoneC u (by simp only [List.mem_cons];exact .inr (by simpa using hu)))));have HMd2:=hidden m2;obtain ⟨a',c',rfl⟩:=lst_slice HM2.out.frs;have c7:=HM2.out.c3;clear hl2 m2 hs2 sz2)
    |(at_builtin;refine wpList_appL _ rfl _ _ _ rfl 3 1 8 Tryz.underlying45 info_nat (by omega) _ fr.length (nats fr) rfl (lst_grow HM2.out.frs (grow_alloc _ _)) w2.heap.size [Value.int .i64 slot] rfl (Blk.new _ _ _) rfl (by intro u hu;simp at hu;subst hu;rfl) (by have:=HFR.out;simp only [maxLen];omega) (by have:=HFR.out;omega) ?_;intro v' w3 h3 g3 wh;obtain ⟨a2,c8,rfl⟩:=lst_slice h3;have hb3:=(HM2.out.blk.grow (grow_alloc w2 (.cells #[Value.int .i64 slot] 3))).of_block (g3.block g (by have:=HM2.out.blk.lt;simp;omega) (fun e=>lst_blk_ne HM2.out.frs HM2.out.blk tne2C e.symm));have c9:w3.cell? ⟨g,3,none⟩=some (.slice a' fr.length c'):=(by rw [hb3.cell];rfl);have f9:=hb3.frozen 3))
  go_ret2;have hse:slot=((i+1:Nat):Int):=by rw [HE.out];rfl
  have hfr:Lst w3 3 1 (.slice a2 (fr.length+1) c8) (fr++[i+1]).length (nats (fr++[i+1])):=by
    rw [nats_snoc,List.length_append,List.length_singleton,← hse];exact h3
  have hmA:Mod (slB g (.slice (some ⟨gp,0,none⟩) ps.length c) (.slice a' fr.length c')) w2 w3:=(Mod.alloc w2 _ _).trans' (Mod.of_grown g3 (fun k hk=>slB_mem.2 (.inr (.inr hk))));have hpl:Lst w3 288 (71+1) (.slice (some ⟨gp,0,none⟩) ps.length c) (ps.set i (0,zcl)).length (flatS (ps.set i (0,zcl))):=lst_mod (lst_grow HM2.out.pls (grow_alloc _ _)) (Mod.of_grown g3 (S:=slB g (.slice none 0 0) (.slice a' fr.length c')) (fun k hk=>slB_mem.2 (.inr (.inr hk)))) (fun k hk hn=>by
    rcases slB_mem.1 hn with rfl | h | h
    · exact lst_blk_ne HM2.out.pls HM2.out.blk tne1C hk
    · cases h
    · exact lst_ne HM2.out.pls HM2.out.frs tne3C k hk h)
  have hgp:∀k∈[gp],k∈slB g (.slice (some ⟨gp,0,none⟩) ps.length c) (.slice a' fr.length c'):=fun k hk=>by
    simp at hk;exact slB_mem.2 (.inr (.inl (by rw [hk];rfl)))
  have hmB:=((HMd.out.mono hgp).trans' (HMd2.out.mono hgp)).trans' hmA;refine ⟨rfl,_,_,⟨mk3C hb3 rfl hpl hfr HM2.out.wid,HS.out.inv.drop HI.out _⟩,hmB.trans' (Mod.setCell _ _ _ _ (slB_mem.2 (.inl rfl))),slB_new (.inl rfl) ?_⟩;rcases wh with e | ⟨k,e,hk⟩
  · exact .inl e
  · refine .inr ⟨k,e,?_⟩
    have h1:=HMd.out.size;have h2:=HMd2.out.size;simp at hk h1 h2;omega

end Go.Proofs.YtdjpigfibafokaaGreatDoor

namespace Go.Proofs.YtdjpigfibafokaaGreatDoor
set_option maxHeartbeats 2000000
set_option maxRecDepth 20000
open Go.RowKit

theorem size_thC:(Tryz.prog.info? 150).map (·.size)=some 71:=by kernel_rfl

theorem zero_thC:∀w,(zeroValue 150).run Tryz.prog w=.ok (.agg zcl.toArray) w:=zero_of_info (n:=71) (by kernel_rfl) |>.1

theorem xszC (z:List Value) (hz:Th z):(Tryz.prog.info? 150).map (·.size)=some (z:List Value).length:=by rw [xlenC z hz];exact size_thC

theorem xplC (z:List Value) (hz:Th z):(Tryz.prog.info? 288).map (·.size)=some (Value.int .i64 1::(z:List Value)).length:=by rw [List.length_cons,xlenC z hz];exact size_plC

theorem xzsC (z:List Value) (hz:Th z):(zcl:List Value).toArray.size=(z:List Value).toArray.size:=by
  have:=xlenC z hz;rw [List.size_toArray,List.size_toArray,this];rfl

def plPlaces:Nat→Option (Nat×Nat):=fun i=>(#[(0,1),(1,71)]:Array (Nat×Nat))[i]?

theorem built_plE (ps:List (Nat×Value)):Tryz.prog.built 288 ps=Instr.fill plPlaces (Value.int .i64 0::zcl).toArray ps:=by kernel_rfl

theorem built_pl (z:List Value) (hz:Th z):Tryz.prog.built 288 [(0,.int .i64 1),(1,.agg z.toArray)]=some (Value.int .i64 1::z).toArray:=by
  rw [built_plE,fill_one plPlaces 0 0 1 _ [.int .i64 1] _ _ rfl rfl rfl (by simp),fill_one plPlaces 1 1 71 _ z _ _ rfl rfl hz.1 (by simp [zcl]),Instr.fill];congr 1
  simp [zcl]

theorem exec_blc (o:Oper) (a:Act) (ty:TypeId) (parts:Array (Nat×Operand)) (ho:o.op=.build ty parts) (cs:Array Value) (h:Tryz.prog.built ty (parts.map fun (i,x)=>(i,a.eval x)).toList=some cs) (w:World):(execOp a.eval o).run Tryz.prog w=.ok (.value (.agg cs)) w:=by
  unfold execOp;simp only [ho,Sem.run_bind,run_build w ty _ cs h,Result.andThen_ok,Sem.run_pure]

theorem wrap_smC (s:Nat) (h:s≤65536):IntKind.i64.wrap (s:Int)=s:=by
  simp only [IntKind.wrap_i64];omega

theorem take_fullC (g:Nat) (vp vf:Value) (room:Nat) (ps:List Pl) (z:List Value) (hz:Th z) (w:World) (h:SlC w g vp vf room ps []) (hl:ps.length=room):Kc 265 #[.pointer (some ⟨g,0,none⟩),(.agg z.toArray)] w fun e w'=>e=.returned (.tuple #[.int .i64 0,.int .i64 9])∧Kb w w':=by
  have HS:Hid (∀w',Kb w w'→SlC w' g vp vf room ps []):=fun w' hb=>h.mod (Mod.of_below hb []) (fun _ _ h=>by cases h)
  have _:=hz.1;have HL:=hidden hl;clear h hl;go_enter Tryz.func265,Tryz.ntmps265
  go_wp2_with (first
    |((with_reducible refine at_bxd 3 ?_);refine wpList_bx _ rfl _ _ rfl _ rfl ?_;intro w1 b hb1 hl1 B1 b1;have c0:=(HS.out _ b1).c0;clear hb1 hl1)
    |(go_at_call 137;refine (made_okC g _ c0).mono ?_;rintro e w' ⟨rfl,hx⟩;rw [hx];clear hx w')
    |(go_at_call 302;refine (vac_fullC g vp vf room ps _ (HS.out _ b1).toSmC HL.out).mono ?_;rintro e w2 ⟨rfl,b2⟩))
  go_ret2;exact ⟨rfl,grow_trans b1 b2⟩

theorem take_freeC (g:Nat) (vp vf:Value) (room:Nat) (ps:List Pl) (fr:List Nat) (s:Nat) (z:List Value) (hz:Th z) (w:World) (h:SlC w g vp vf room ps (fr++[s])):Kc 265 #[.pointer (some ⟨g,0,none⟩),(.agg z.toArray)] w fun e w'=>e=.returned (.tuple #[.int .i64 (s:Int),.int .i64 0])∧TurnC w g (slB g vp vf) room (ps.set (s-1) (1,z)) fr w':=by
  have HS:Hid (∀w',Kb w w'→SlC w' g vp vf room ps (fr++[s])):=fun w' hb=>h.mod (Mod.of_below hb []) (fun _ _ h=>by cases h)
  obtain ⟨q1,q2,q3⟩:=h.inv.free s (by simp);obtain ⟨i,rfl⟩:∃i,s=i+1:=⟨s-1,by omega⟩;have hil:i<ps.length:=by omega
  have h1:=h.inv.len;have h2:=h.inv.r2;have h3:=h.inv.frlen;have HF:Hid (fr.length≤65536):=by show fr.length≤65536;simp at h3;omega
  have hi6:i≤65536:=by omega
  have HW2:=hidden (wrap_smC i hi6);have HINV:=hidden h.inv;have HLT:Hid (∀k∈slB g vp vf,k<w.heap.size):=fun k hk=>by
    rcases slB_mem.1 hk with rfl | hk | hk
    · exact h.blk.lt
    · exact lst_lt h.pls k hk
    · exact lst_lt h.frs k hk
  obtain ⟨gp,c,rfl,_⟩:=lst_pos h.pls (by omega);have j0:(0:Int)≤(i:Int):=by omega
  have j1:(i:Int)<(ps.length:Int):=by omega
  have hw:wrap64 (i:Int)=i:=Go.IntWalk.wrap64_in _ (by omega);have HI:=hidden hil;clear h q1 q2 q3 h1 h2 h3 hi6;go_enter Tryz.func265,Tryz.ntmps265
  go_wp2_with (first
    |((with_reducible refine at_bxd 3 ?_);refine wpList_bx _ rfl _ _ rfl _ rfl ?_;intro wx b hbx hlx Bx bx;have c0:=(HS.out _ bx).c0;have HBx:=hidden Bx;have Hbx:=hidden bx;have Hgb:=hidden hbx;clear hbx hlx Bx bx)
    |(go_at_call 137;refine (made_okC g _ c0).mono ?_;rintro e w' ⟨rfl,hx⟩;rw [hx];clear hx w')
    |(go_at_call 302;refine (vac_freeC g _ vf room ps fr (i+1) _ (HS.out _ Hbx.out).toSmC HF.out).mono ?_;rintro e w1 ⟨vf',rfl,hm1,m1,ob⟩;have HM1:=hidden hm1;have Hm1:=hidden m1;have Hob:=hidden ob;clear hm1 m1 c0 ob))
  have hgne:b≠g:=by
    have:=HLT.out g (slB_mem.2 (.inl rfl));have:=Hgb.out;omega
  have hpne:b≠gp:=by
    have:=HLT.out gp (slB_mem.2 (.inr (.inl rfl)));have:=Hgb.out;omega
  have hB1:Blk w1 b 150 (z).toArray:=HBx.out.mod Hm1.out (by simpa using hgne);have HMd:=hidden (HM1.out.mod (w':=w1.drew) (Mod.drew [] _) (fun _ _ h=>by cases h));have HS0:Hid (w1.drew.cell? ⟨g,2,none⟩=some (.slice (some ⟨gp,0,none⟩) ps.length c)∧w1.drew.rangeAt b 0 z):=⟨HMd.out.c2,hB1.drew.range⟩;have HSK:Hid (∀w2,Mod [gp] w1.drew w2→w2.cell? ⟨g,2,none⟩=some (.slice (some ⟨gp,0,none⟩) ps.length c)∧w2.rangeAt b 0 z):=fun w2 m2=>
    ⟨by rw [(HMd.out.blk.mod m2 (fun e=>lst_blk_ne HMd.out.pls HMd.out.blk tne1C (by simp at e;rw [e];rfl))).cell];rfl,(hB1.drew.mod m2 (by simpa using hpne)).range⟩
  clear hB1 hgne hpne;refine wp_region_held_drew (S:=fun w'=>w'.cell? ⟨g,2,none⟩=some (.slice (some ⟨gp,0,none⟩) ps.length c)∧w'.rangeAt b 0 z) (by kernel_rfl) (HS0.out) (fun hHeld=>?_);refine tkp 0 (.pointer (some ⟨g,0,none⟩)) hHeld ?_;simp only [Act.put,zq1,zq2,zq4,zq5,zq6];refine tkp 1 (.pointer (some ⟨g,0,none⟩)) hHeld ?_;simp only [Act.put,zq1,zq2,zq3,zq4,zq5,zq6];refine tkp 2 (.pointer (some ⟨g,2,none⟩)) hHeld ?_;simp only [Act.put,zq1,zq2,zq3,zq4,zq5,zq6];refine tkg 3 (.slice (some ⟨gp,0,none⟩) ps.length c) rfl (Or.inl ⟨by rfl,fun w hS=>by (have q1:=hS.1;go_simp)⟩) hHeld ?_;simp only [Act.put,zq1,zq2,zq3,zq4,zq5,zq6];refine tkp 4 (.int .i64 ((i:Int)+1)) hHeld ?_;simp only [Act.put,zq1,zq2,zq3,zq4,zq5,zq6];refine tkg 5 (.int .i64 (i:Int)) rfl (Or.inl ⟨by rfl,fun w hS=>by (go_simp;exact HW2.out)⟩) hHeld ?_;simp only [Act.put,zq1,zq2,zq3,zq4,zq5,zq6];refine tkg 6 ((.agg z.toArray)) rfl (yieldsIf_load_mid rfl 150 (.tmp 3) rfl b 0 rfl z _ (fun w hS=>hS.2) Tryz.underlying150 rfl (xszC z hz)) hHeld ?_;simp only [Act.put,zq1,zq2,zq3,zq4,zq5,zq6];refine tkg 7 (.agg (Value.int .i64 1::z).toArray) rfl (Or.inl ⟨by rfl,fun w hS=>exec_blc _ _ 288 _ (by rfl) _ (by rw [List.map_toArray];exact built_pl z hz) w⟩) hHeld ?_;simp only [Act.put,zq1,zq2,zq3,zq4,zq5,zq6];refine tkp 8 (.pointer (some ⟨gp,i * (71+1),none⟩)) hHeld ?_;simp only [Act.put,zq1,zq2,zq3,zq4,zq5,zq6];refine wpAnyH_ready (rs:=[9]) (by kernel_rfl) (by simp) ?_;refine AllReadyH.cons rfl (fun KQ hK=>?_) AllReadyH.nil;refine step_stl _ rfl _ _ _ rfl 288 (71+1) ps.length c gp (i * (71+1)) (flatS ps) (Value.int .i64 1::z) rfl rfl (HMd.out.pls) (xplC z hz) (by have:=Nat.mul_le_mul_right (71+1) (show i+1≤ps.length from HI.out);rw [Nat.add_mul,Nat.one_mul] at this;rw [List.length_cons,xlenC z hz];exact this) (xoneC z hz 1) ?_;intro w2 hl2 m2 sz2;have hSB:=HSK.out _ m2;refine hK.out _ _ hSB (fun hHeld=>?_);clear hK KQ;refine wpAnyH_done (by kernel_rfl) ?_ _;go_wp2
  go_ret2;have hi:=HI.out;have hs:=flatS_setPlace HMd.out.wid i 1 z hi (xlenC z hz);rw [show ((1:Nat):Int)=1 from rfl] at hs;rw [hs] at hl2;refine ⟨rfl,_,_,⟨HMd.out.over m2 (ps':=ps.set i (1,z)) (by rw [List.length_set];exact hl2) (HMd.out.wid.set i 1 _ (xlenC z hz) (fun u hu=>xoneC z hz 1 u (by simp only [List.mem_cons];exact .inr (by simpa using hu)))),HINV.out.takeFree _⟩,?_,slB_new (.inl rfl) (.inl Hob.out)⟩;exact ((Mod.of_below Hbx.out _).trans' (Hm1.out.mono (fun k hk=>by simp at hk;exact slB_mem.2 (.inl hk)))).trans' ((Mod.drew _ _).trans' (m2.mono (fun k hk=>by simp at hk;exact slB_mem.2 (.inr (.inl (by rw [hk];rfl))))))

theorem take_newC (g:Nat) (vp vf:Value) (room:Nat) (ps:List Pl) (z:List Value) (hz:Th z) (w:World) (h:SlC w g vp vf room ps []) (hl:ps.length<room):Kc 265 #[.pointer (some ⟨g,0,none⟩),(.agg z.toArray)] w fun e w'=>e=.returned (.tuple #[.int .i64 ((ps.length+1:Nat):Int),.int .i64 0])∧TurnC w g (slB g vp vf) room (ps++[(1,z)]) [] w':=by
  have HS:Hid (∀w',Kb w w'→SlC w' g vp vf room ps []):=fun w' hb=>h.mod (Mod.of_below hb []) (fun _ _ h=>by cases h)
  have h2:=h.inv.r2;have HR:=hidden h2;obtain ⟨i,hi⟩:∃i,i=ps.length:=⟨_,rfl⟩;have j0:(0:Int)≤(i:Int):=by omega
  have j1:(i:Int)<((i+1:Nat):Int):=by omega
  have hw:wrap64 (i:Int)=i:=Go.IntWalk.wrap64_in _ (by omega);have hi6:i≤65536:=by omega
  have HW2:=hidden (wrap_smC i hi6);have HI:=hidden hi;have HL:=hidden hl;have HINV:=hidden h.inv;have HLT:Hid (∀k∈slB g vp vf,k<w.heap.size):=fun k hk=>by
    rcases slB_mem.1 hk with rfl | hk | hk
    · exact h.blk.lt
    · exact lst_lt h.pls k hk
    · exact lst_lt h.frs k hk
  have HWd:=hidden h.wid;have HE:Hid (∀w,Kc 302 #[.pointer (some ⟨g,0,none⟩)] w (fun e w'=>∃vp',e=.returned (.tuple #[.int .i64 ((ps.length+1:Nat):Int),.bool true])∧SmC w' g vp' vf room (ps++[(0,zcl)]) []∧Mod (slB g vp vf) w w'∧WhereL w vp vp')→Kc 302 #[.pointer (some ⟨g,0,none⟩)] w (fun e w'=>∃gp c,e=.returned (.tuple #[.int .i64 ((i+1:Nat):Int),.bool true])∧SmC w' g (.slice (some ⟨gp,0,none⟩) (i+1) c) vf room (ps++[(0,zcl)]) []∧Mod (slB g vp vf) w w'∧WhereL w vp (.slice (some ⟨gp,0,none⟩) (i+1) c))):=by
    intro w hc;refine hc.mono ?_;rintro e w' ⟨vp',rfl,hm,m,wh⟩;obtain ⟨gp,c,rfl,_⟩:=lst_pos hm.pls (by simp);rw [show (ps++[((0,zcl):Pl)]).length=i+1 by simp [hi]] at hm wh;exact ⟨gp,c,by rw [hi],hm,m,wh⟩
  clear h h2 hl hi hi6;go_enter Tryz.func265,Tryz.ntmps265
  go_wp2_with (first
    |((with_reducible refine at_bxd 3 ?_);refine wpList_bx _ rfl _ _ rfl _ rfl ?_;intro wx b hbx hlx Bx bx;have c0:=(HS.out _ bx).c0;have HBx:=hidden Bx;have Hbx:=hidden bx;have Hgb:=hidden hbx;have Hlb:=hidden hlx;clear hbx hlx Bx bx)
    |(go_at_call 137;refine (made_okC g _ c0).mono ?_;rintro e w' ⟨rfl,hx⟩;rw [hx];clear hx w')
    |(go_at_call 302;refine (HE.out _ (vac_newC g vp vf room ps _ (HS.out _ Hbx.out).toSmC HL.out HR.out)).mono ?_;rintro e w1 ⟨gp,c,rfl,hm1,m1,wh⟩;have HM1:=hidden hm1;have Hm1:=hidden m1;have Hwh:=hidden wh;clear hm1 m1 c0 wh))
  have hbS:b ∉ slB g vp vf:=fun e=>by
    have:=HLT.out b e;have:=Hgb.out;omega
  have hpne:b≠gp:=by
    rcases Hwh.out with e | ⟨q,e,hq⟩
    · intro e2
      exact hbS (slB_mem.2 (.inr (.inl (by rw [← e,e2];rfl))))
    · simp only [Value.ownBlock,Option.some.injEq] at e
      have:=Hlb.out;omega
  have hB1:Blk w1 b 150 (z).toArray:=HBx.out.mod Hm1.out hbS;have HMd:=hidden (HM1.out.mod (w':=w1.drew) (Mod.drew [] _) (fun _ _ h=>by cases h));have HS0:Hid (w1.drew.cell? ⟨g,2,none⟩=some (.slice (some ⟨gp,0,none⟩) (i+1) c)∧w1.drew.rangeAt b 0 z):=⟨HMd.out.c2,hB1.drew.range⟩;have HSK:Hid (∀w2,Mod [gp] w1.drew w2→w2.cell? ⟨g,2,none⟩=some (.slice (some ⟨gp,0,none⟩) (i+1) c)∧w2.rangeAt b 0 z):=fun w2 m2=>
    ⟨by rw [(HMd.out.blk.mod m2 (fun e=>lst_blk_ne HMd.out.pls HMd.out.blk tne1C (by simp at e;rw [e];rfl))).cell];rfl,(hB1.drew.mod m2 (by simpa using hpne)).range⟩
  clear hB1 hpne;refine wp_region_held_drew (S:=fun w'=>w'.cell? ⟨g,2,none⟩=some (.slice (some ⟨gp,0,none⟩) (i+1) c)∧w'.rangeAt b 0 z) (by kernel_rfl) (HS0.out) (fun hHeld=>?_);refine tkp 0 (.pointer (some ⟨g,0,none⟩)) hHeld ?_;simp only [Act.put,zq1,zq2,zq4,zq5,zq6];refine tkp 1 (.pointer (some ⟨g,0,none⟩)) hHeld ?_;simp only [Act.put,zq1,zq2,zq3,zq4,zq5,zq6];refine tkp 2 (.pointer (some ⟨g,2,none⟩)) hHeld ?_;simp only [Act.put,zq1,zq2,zq3,zq4,zq5,zq6];refine tkg 3 (.slice (some ⟨gp,0,none⟩) (i+1) c) rfl (Or.inl ⟨by rfl,fun w hS=>by (have q1:=hS.1;go_simp)⟩) hHeld ?_;simp only [Act.put,zq1,zq2,zq3,zq4,zq5,zq6];refine tkp 4 (.int .i64 ((i:Int)+1)) hHeld ?_;simp only [Act.put,zq1,zq2,zq3,zq4,zq5,zq6];refine tkg 5 (.int .i64 (i:Int)) rfl (Or.inl ⟨by rfl,fun w hS=>by (go_simp;exact HW2.out)⟩) hHeld ?_;simp only [Act.put,zq1,zq2,zq3,zq4,zq5,zq6];refine tkg 6 ((.agg z.toArray)) rfl (yieldsIf_load_mid rfl 150 (.tmp 3) rfl b 0 rfl z _ (fun w hS=>hS.2) Tryz.underlying150 rfl (xszC z hz)) hHeld ?_;simp only [Act.put,zq1,zq2,zq3,zq4,zq5,zq6];refine tkg 7 (.agg (Value.int .i64 1::z).toArray) rfl (Or.inl ⟨by rfl,fun w hS=>exec_blc _ _ 288 _ (by rfl) _ (by rw [List.map_toArray];exact built_pl z hz) w⟩) hHeld ?_;simp only [Act.put,zq1,zq2,zq3,zq4,zq5,zq6];refine tkg 8 (.pointer (some ⟨gp,i * (71+1),none⟩)) rfl (Or.inl ⟨by rfl,fun w hS=>by (go_simp;intro h8;omega)⟩) hHeld ?_;simp only [Act.put,zq1,zq2,zq3,zq4,zq5,zq6];refine wpAnyH_ready (rs:=[9]) (by kernel_rfl) (by simp) ?_;refine AllReadyH.cons rfl (fun KQ hK=>?_) AllReadyH.nil;refine step_stl _ rfl _ _ _ rfl 288 (71+1) (i+1) c gp (i * (71+1)) (flatS (ps++[(0,zcl)])) (Value.int .i64 1::z) rfl rfl (by have:=HMd.out.pls;rw [List.length_append,List.length_singleton,← HI.out] at this;exact this) (xplC z hz) (by rw [Nat.add_mul,List.length_cons,xlenC z hz];omega) (xoneC z hz 1) ?_;intro w2 hl2 m2 sz2;have hSB:=HSK.out _ m2;refine hK.out _ _ hSB (fun hHeld=>?_);clear hK KQ;refine wpAnyH_done (by kernel_rfl) ?_ _;go_wp2
  go_ret2;have hi:=HI.out;have hs:=flatS_setPlace HMd.out.wid i 1 z (by simp;omega) (xlenC z hz);rw [show ((1:Nat):Int)=1 from rfl] at hs;rw [hs,hi,set_last] at hl2;rw [hi] at Hwh HMd;have hwh:=Hwh.out;have hwS:WhereL w vp (.slice (some ⟨gp,0,none⟩) (ps.length+1) c):=by
    rcases hwh with e | ⟨q,e,hq⟩
    · exact .inl e
    · exact .inr ⟨q,e,by have:=Hbx.out.size;omega⟩
  refine ⟨by rw [hi];rfl,_,_,⟨HMd.out.over m2 (ps':=ps++[(1,z)]) (by simpa using hl2) (HWd.out.snoc 1 _ (xlenC z hz) (fun u hu=>xoneC z hz 1 u (by simp only [List.mem_cons];exact .inr (by simpa using hu)))),HINV.out.takeNew HL.out _⟩,?_,slB_new hwS (.inl rfl)⟩;exact (((Mod.of_below Hbx.out _).trans' Hm1.out).trans' (Mod.drew _ _)).trans (slB_new (g:=g) hwS (.inl rfl)) (m2.mono (fun k hk=>by simp at hk;exact slB_mem.2 (.inr (.inl (by rw [hk];rfl)))))

theorem get_okC (g:Nat) (vp vf:Value) (room:Nat) (ps:List Pl) (fr:List Nat) (slot:Int) (i:Nat) (z:List Value) (hz:Th z) (w:World) (h:SlC w g vp vf room ps fr) (hs:slot=(i:Int)+1) (hi:0<cnt ps i) (ht:thg ps i=z):Kc 204 #[.pointer (some ⟨g,0,none⟩),.int .i64 slot] w fun e w'=>e=.returned (.tuple #[(.agg z.toArray),.int .i64 0])∧Kb w w':=by
  have HS:Hid (∀w',Kb w w'→SlC w' g vp vf room ps fr):=fun w' hb=>h.mod (Mod.of_below hb []) (fun _ _ h=>by cases h)
  have HI:=hidden hi;have HE:=hidden hs;have HTh:=hidden ht;obtain ⟨gp,c,rfl,_,hil,j0,j1,hw,hm⟩:=h.at i hi;have HIL:=hidden hil;have HRg:Hid (∀w',Kb w w'→w'.rangeAt gp (i * (71+1)+1) z):=by
    intro w' hb j u hu;have hsl:=HS.out _ hb;have hj:j<71:=by have:=(List.getElem?_eq_some_iff.1 hu).1;rwa [xlenC z hz] at this
    rw [lst_cell hsl.pls _ (by have:=Nat.mul_le_mul_right (71+1) (show i+1≤ps.length from hil);rw [Nat.add_mul] at this;omega)];exact flatS_thing hsl.wid i hil j u (by rw [HTh.out];exact hu)
  clear h hs hi ht;go_enter Tryz.func204,Tryz.ntmps204
  go_wp2_with (first
    |((with_reducible refine at_ald 4 ?_);refine wpList_al _ rfl _ rfl _ zero_thC ?_;intro w1 b4 hg1 hl1 B1 b1;have c2:=(HS.out _ b1).c2;have HB1:=hidden B1;have Hg1:=hidden hg1;clear B1 hg1 hl1)
    |(go_at_call 208;refine (at_okC g _ vf room ps fr slot i _ (HS.out _ b1) HE.out HI.out).mono ?_;rintro e w' ⟨rfl,hx⟩;rw [hx];clear hx w')
    |((with_reducible refine at_ldd 26 25 ?_);refine wpList_load_mid rfl _ _ rfl gp (i * (71+1)+1) rfl z _ (HRg.out _ b1) Tryz.underlying150 rfl (xszC z hz) ?_)
    |((with_reducible refine at_st 4 ?_);refine wpList_sto _ rfl _ _ _ rfl b4 _ (z).toArray rfl rfl HB1.out (xszC z hz) (xzsC z hz) (all_oneCell_toArray (fun u hu=>xoneC z hz 1 u (by simp only [List.mem_cons];exact .inr (by simpa using hu)))) ?_;intro w2 B2 g2))
  exact bodyPost_ret (v:=.tuple #[(.agg z.toArray),.int .i64 0]) (results_agg_tmp rfl _ _ b4 _ _ rfl rfl B2 Tryz.underlying150 (xszC z hz)) rfl ⟨rfl,below_row b1 g2 Hg1.out⟩

end Go.Proofs.YtdjpigfibafokaaGreatDoor

namespace Go.Proofs.YtdjpigfibafokaaGreatDoor
set_option maxHeartbeats 2000000
set_option maxRecDepth 20000
open Go.RowKit

theorem get_badC (g:Nat) (vp vf:Value) (room:Nat) (ps:List Pl) (fr:List Nat) (slot:Int) (w:World) (h:SlC w g vp vf room ps fr) (hv:Vac ps slot):Kc 204 #[.pointer (some ⟨g,0,none⟩),.int .i64 slot] w fun e w'=>e=.returned (.tuple #[(.agg zcl.toArray),.int .i64 7])∧Kb w w':=by
  have HS:Hid (∀w',Kb w w'→SlC w' g vp vf room ps fr):=fun w' hb=>h.mod (Mod.of_below hb []) (fun _ _ h=>by cases h)
  have HV:=hidden hv;clear h hv;go_enter Tryz.func204,Tryz.ntmps204
  go_wp2_with (first
    |((with_reducible refine at_ald 4 ?_);refine wpList_al _ rfl _ rfl _ zero_thC ?_;intro w1 b4 hg1 hl1 B1 b1;have HB1:=hidden B1;have Hg1:=hidden hg1;have Hl1:=hidden hl1;clear B1 hg1 hl1)
    |(go_at_call 208;refine (at_badC g _ vf room ps fr slot _ (HS.out _ b1) HV.out).mono ?_;rintro e w' ⟨rfl,hx⟩;rw [hx];clear hx w')
    |((with_reducible refine at_ald 8 ?_);refine wpList_al _ rfl _ rfl _ zero_thC ?_;intro w2 b8 hg2 hl2 B2 b2;have HB2:=hidden B2;have HB1':=hidden (HB1.out.grow b2);have Hb2:=hidden b2;have hne:b4≠b8:=(by have:=Hl1.out;omega);clear B2 hg2 hl2 b2)
    |((with_reducible refine at_ldd 17 8 ?_);refine wpList_load_mid rfl _ _ rfl b8 0 rfl zcl _ HB2.out.range Tryz.underlying150 rfl (xszC zcl zcl_th) ?_)
    |((with_reducible refine at_st 4 ?_);refine wpList_sto _ rfl _ _ _ rfl b4 _ zcl.toArray rfl rfl HB1'.out (xszC zcl zcl_th) rfl (all_oneCell_toArray zcl_th.2) ?_;intro w3 B3 g3))
  exact bodyPost_ret (v:=.tuple #[(.agg zcl.toArray),.int .i64 7]) (results_agg_tmp rfl _ _ b4 _ _ rfl rfl B3 Tryz.underlying150 (xszC zcl zcl_th)) rfl ⟨rfl,below_row (grow_trans b1 Hb2.out) g3 Hg1.out⟩

theorem set_okC (g:Nat) (vp vf:Value) (room:Nat) (ps:List Pl) (fr:List Nat) (slot:Int) (i:Nat) (z:List Value) (hz:Th z) (w:World) (h:SlC w g vp vf room ps fr) (hs:slot=(i:Int)+1) (hi:0<cnt ps i):Kc 270 #[.pointer (some ⟨g,0,none⟩),.int .i64 slot,(.agg z.toArray)] w fun e w'=>e=.returned (.int .i64 0)∧TurnC w g (slB g vp vf) room (ps.set i (cnt ps i,z)) fr w':=by
  have HS:Hid (∀w',Kb w w'→SlC w' g vp vf room ps fr):=fun w' hb=>h.mod (Mod.of_below hb []) (fun _ _ h=>by cases h)
  have HI:=hidden hi;have HE:=hidden hs;have HLE:=hidden (h.inv.most i);have HINV:=hidden h.inv;have HLT:Hid (∀k∈slB g vp vf,k<w.heap.size):=fun k hk=>by
    rcases slB_mem.1 hk with rfl | hk | hk
    · exact h.blk.lt
    · exact lst_lt h.pls k hk
    · exact lst_lt h.frs k hk
  obtain ⟨gp,c,rfl,_,hil,j0,j1,hw,hm⟩:=h.at i hi;have HIL:=hidden hil;clear h hs hi;go_enter Tryz.func270,Tryz.ntmps270
  go_wp2_with (first
    |((with_reducible refine at_bxd 5 ?_);refine wpList_bx _ rfl _ _ rfl _ rfl ?_;intro wx b hbx hlx Bx bx;have HBx:=hidden Bx;have Hbx:=hidden bx;have Hgb:=hidden hbx;clear hbx hlx Bx bx)
    |(go_at_call 208;refine (at_okC g _ vf room ps fr slot i _ (HS.out _ Hbx.out) HE.out HI.out).mono ?_;rintro e w' ⟨rfl,hx⟩;rw [hx];clear hx w'))
  have hgne:b≠g:=by
    have:=HLT.out g (slB_mem.2 (.inl rfl));have:=Hgb.out;omega
  have hpne:b≠gp:=by
    have:=HLT.out gp (slB_mem.2 (.inr (.inl rfl)));have:=Hgb.out;omega
  have hB1:Blk wx b 150 (z).toArray:=HBx.out;have HMd:=hidden ((HS.out _ Hbx.out).toSmC.mod (w':=wx.drew) (Mod.drew [] _) (fun _ _ h=>by cases h));have HS0:Hid (wx.drew.cell? ⟨g,2,none⟩=some (.slice (some ⟨gp,0,none⟩) ps.length c)∧wx.drew.rangeAt b 0 z):=⟨HMd.out.c2,hB1.drew.range⟩;have HSK:Hid (∀w2,Mod [gp] wx.drew w2→w2.cell? ⟨g,2,none⟩=some (.slice (some ⟨gp,0,none⟩) ps.length c)∧w2.rangeAt b 0 z):=fun w2 m2=>
    ⟨by rw [(HMd.out.blk.mod m2 (fun e=>lst_blk_ne HMd.out.pls HMd.out.blk tne1C (by simp at e;rw [e];rfl))).cell];rfl,(hB1.drew.mod m2 (by simpa using hpne)).range⟩
  clear hB1 hgne hpne;refine wp_region_held_drew (S:=fun w'=>w'.cell? ⟨g,2,none⟩=some (.slice (some ⟨gp,0,none⟩) ps.length c)∧w'.rangeAt b 0 z) (by kernel_rfl) (HS0.out) (fun hHeld=>?_);refine tkp 0 (.pointer (some ⟨g,0,none⟩)) hHeld ?_;simp only [Act.put,zq1,zq2,zq4,zq5,zq6];refine tkp 1 (.pointer (some ⟨g,0,none⟩)) hHeld ?_;simp only [Act.put,zq1,zq2,zq3,zq4,zq5,zq6];refine tkp 2 (.pointer (some ⟨g,2,none⟩)) hHeld ?_;simp only [Act.put,zq1,zq2,zq3,zq4,zq5,zq6];refine tkg 3 (.slice (some ⟨gp,0,none⟩) ps.length c) rfl (Or.inl ⟨by rfl,fun w hS=>by (have q1:=hS.1;go_simp)⟩) hHeld ?_;simp only [Act.put,zq1,zq2,zq3,zq4,zq5,zq6];refine tkp 4 (.int .i64 (i:Int)) hHeld ?_;simp only [Act.put,zq1,zq2,zq3,zq4,zq5,zq6];refine tkg 5 ((.agg z.toArray)) rfl (yieldsIf_load_mid rfl 150 (.tmp 5) rfl b 0 rfl z _ (fun w hS=>hS.2) Tryz.underlying150 rfl (xszC z hz)) hHeld ?_;simp only [Act.put,zq1,zq2,zq3,zq4,zq5,zq6];refine tkp 6 (.pointer (some ⟨gp,i * (71+1),none⟩)) hHeld ?_;simp only [Act.put,zq1,zq2,zq3,zq4,zq5,zq6];refine tkp 7 (.pointer (some ⟨gp,i * (71+1)+1,none⟩)) hHeld ?_;simp only [Act.put,zq1,zq2,zq3,zq4,zq5,zq6];refine wpAnyH_ready (rs:=[8]) (by kernel_rfl) (by simp) ?_;refine AllReadyH.cons rfl (fun KQ hK=>?_) AllReadyH.nil;refine step_stl _ rfl _ _ _ rfl 288 (71+1) ps.length c gp (i * (71+1)+1) (flatS ps) z rfl rfl (HMd.out.pls) (xszC z hz) (by have:=Nat.mul_le_mul_right (71+1) (show i+1≤ps.length from HIL.out);rw [Nat.add_mul,Nat.one_mul] at this;rw [xlenC z hz];omega) (hz.2) ?_;intro w2 hl2 m2 sz2;have hSB:=HSK.out _ m2;refine hK.out _ _ hSB (fun hHeld=>?_);clear hK KQ;refine wpAnyH_done (by kernel_rfl) ?_ _;go_wp2
  go_ret;have hs2:=flatS_setThing HMd.out.wid i z HIL.out (xlenC z hz);rw [hs2] at hl2;refine ⟨rfl,_,_,⟨HMd.out.over m2 (ps':=ps.set i (cnt ps i,z)) (by rw [List.length_set];exact hl2) (HMd.out.wid.set i _ _ (xlenC z hz) hz.2),HINV.out.held HI.out HI.out HLE.out _⟩,?_,New.refl _ _⟩;exact (Mod.of_below Hbx.out _).trans' ((Mod.drew _ _).trans' (m2.mono (fun k hk=>by simp at hk;exact slB_mem.2 (.inr (.inl (by rw [hk];rfl))))))

end Go.Proofs.YtdjpigfibafokaaGreatDoor

namespace Go.Proofs.YtdjpigfibafokaaGreatDoor
set_option maxHeartbeats 2000000
set_option maxRecDepth 20000
open Go.RowKit

end Go.Proofs.YtdjpigfibafokaaGreatDoor
