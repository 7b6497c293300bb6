/- Calls of a slab that take or tell things, of things of type store.cell (a struct), as contracts: Take, Get. -/
import Derived.Test.YtlclabbnpjobgaaGreatDoorAp08
import Derived.Deep.RegionHeld2
namespace Go.Proofs.YtlclabbnpjobgaaGreatDoor
set_option maxHeartbeats 2000000
set_option maxRecDepth 20000
open Go.RowKit
theorem Zyq:(Tryz.prog.info? 88).map (·.size)=some 71:=by kernel_rfl
theorem Zal:∀w,(zeroValue 88).run Tryz.prog w=.ok (.agg zcl.toArray) w:=zero_of_info (n:=71) (by kernel_rfl) |>.1
theorem Zco (z:List Value) (hz:Th z):(Tryz.prog.info? 88).map (·.size)=some (z:List Value).length:=by rw [Zfz z hz];exact Zyq
theorem Yji (z:List Value) (hz:Th z):(Tryz.prog.info? 173).map (·.size)=some (Value.int .i64 1::(z:List Value)).length:=by rw [List.length_cons,Zfz z hz];exact Zou
theorem Zkx (z:List Value) (hz:Th z):(zcl:List Value).toArray.size=(z:List Value).toArray.size:=by
 have:=Zfz z hz;rw [List.size_toArray,List.size_toArray,this];rfl
def plPlaces:Nat→Option (Nat×Nat):=fun i=>(#[(0,1),(1,71)]:Array (Nat×Nat))[i]?
theorem Zxh (ps:List (Nat×Value)):Tryz.prog.built 173 ps=Instr.fill plPlaces (Value.int .i64 0::zcl).toArray ps:=by kernel_rfl
theorem Zqc (z:List Value) (hz:Th z):Tryz.prog.built 173 [(0,.int .i64 1),(1,.agg z.toArray)]=some (Value.int .i64 1::z).toArray:=by
 rw [Zxh,Zcx plPlaces 0 0 1 _ [.int .i64 1] _ _ rfl rfl rfl (by simp),Zcx plPlaces 1 1 71 _ z _ _ rfl rfl hz.1 (by simp [zcl]),Instr.fill];congr 1
 simp [zcl]
theorem Zcz (o:Oper) (a:Act) (ty:TypeId) (parts:Array (Nat×Operand)) (ho:o.op=.build ty parts) (cs:Array Value) (h:Tryz.prog.built ty (parts.map fun (i,x)=>(i,a.eval x)).toList=some cs) (w:World):(execOp a.eval o).run Tryz.prog w=.ok (.value (.agg cs)) w:=by
 unfold execOp;simp only [ho,Sem.run_bind,run_build w ty _ cs h,Result.andThen_ok,Sem.run_pure]
theorem Zop (s:Nat) (h:s≤65536):IntKind.i64.wrap (s:Int)=s:=by
 simp only [IntKind.wrap_i64];omega
theorem Zqw (g:Nat) (vp vf:Value) (room:Nat) (ps:List Pl) (z:List Value) (hz:Th z) (w:World) (h:SlC w g vp vf room ps []) (hl:ps.length=room):Kc 164 #[.pointer (some ⟨g,0,none⟩),(.agg z.toArray)] w fun e w'=>e=.returned (.tuple #[.int .i64 0,.int .i64 9])∧Kb w w':=by
 have HS:Hid (∀w',Kb w w'→SlC w' g vp vf room ps []):=fun w' hb=>h.mod (Mod.of_below hb []) (fun _ _ h=>by cases h)
 have _:=hz.1;have HL:=Za hl;clear h hl;go_enter Tryz.func164,Tryz.ntmps164
 go_wp2_with (first
  |((with_reducible refine Zo 3 ?_);refine Zd _ rfl _ _ rfl _ rfl ?_;intro w1 b hb1 hl1 B1 b1;have c0:=(HS.out _ b1).c0;clear hb1 hl1)
  |(go_at_call 67;refine (Zbx g _ c0).mono ?_;rintro e w' ⟨rfl,hx⟩;rw [hx];clear hx w')
  |(go_at_call 190;refine (Zso g vp vf room ps _ (HS.out _ b1).toSmC HL.out).mono ?_;rintro e w2 ⟨rfl,b2⟩))
 go_ret2;exact ⟨rfl,Zb b1 b2⟩
theorem Zqx (g:Nat) (vp vf:Value) (room:Nat) (ps:List Pl) (fr:List Nat) (s:Nat) (z:List Value) (hz:Th z) (w:World) (h:SlC w g vp vf room ps (fr++[s])):Kc 164 #[.pointer (some ⟨g,0,none⟩),(.agg z.toArray)] w fun e w'=>e=.returned (.tuple #[.int .i64 (s:Int),.int .i64 0])∧TurnC w g (slB g vp vf) room (ps.set (s-1) (1,z)) fr w':=by
 have HS:Hid (∀w',Kb w w'→SlC w' g vp vf room ps (fr++[s])):=fun w' hb=>h.mod (Mod.of_below hb []) (fun _ _ h=>by cases h)
 obtain ⟨q1,q2,q3⟩:=h.inv.free s (by simp);obtain ⟨i,rfl⟩:∃i,s=i+1:=⟨s-1,by omega⟩;have hil:i<ps.length:=by omega
 have h1:=h.inv.len;have h2:=h.inv.r2;have h3:=h.inv.frlen;have HF:Hid (fr.length≤65536):=by show fr.length≤65536;simp at h3;omega
 have hi6:i≤65536:=by omega
 have HW2:=Za (Zop i hi6);have HINV:=Za h.inv;have HLT:Hid (∀k∈slB g vp vf,k<w.heap.size):=fun k hk=>by
  rcases Zaa.1 hk with rfl | hk | hk
  ·exact h.blk.lt
  ·exact Zdu h.pls k hk
  ·exact Zdu h.frs k hk
 obtain ⟨gp,c,rfl,_⟩:=Zat h.pls (by omega);have j0:(0:Int)≤(i:Int):=by omega
 have j1:(i:Int)<(ps.length:Int):=by omega
 have hw:wrap64 (i:Int)=i:=Go.IntWalk.wrap64_in _ (by omega);have HI:=Za hil;clear h q1 q2 q3 h1 h2 h3 hi6;go_enter Tryz.func164,Tryz.ntmps164
 go_wp2_with (first
  |((with_reducible refine Zo 3 ?_);refine Zd _ rfl _ _ rfl _ rfl ?_;intro wx b hbx hlx Bx bx;have c0:=(HS.out _ bx).c0;have HBx:=Za Bx;have Hbx:=Za bx;have Hgb:=Za hbx;clear hbx hlx Bx bx)
  |(go_at_call 67;refine (Zbx g _ c0).mono ?_;rintro e w' ⟨rfl,hx⟩;rw [hx];clear hx w')
  |(go_at_call 190;refine (Zsp g _ vf room ps fr (i+1) _ (HS.out _ Hbx.out).toSmC HF.out).mono ?_;rintro e w1 ⟨vf',rfl,hm1,m1,ob⟩;have HM1:=Za hm1;have Hm1:=Za m1;have Hob:=Za ob;clear hm1 m1 c0 ob))
 have hgne:b≠g:=by
  have:=HLT.out g (Zaa.2 (.inl rfl));have:=Hgb.out;omega
 have hpne:b≠gp:=by
  have:=HLT.out gp (Zaa.2 (.inr (.inl rfl)));have:=Hgb.out;omega
 have hB1:Blk w1 b 88 (z).toArray:=HBx.out.mod Hm1.out (by simpa using hgne);have HMd:=Za (HM1.out.mod (w':=w1.drew) (Mod.drew [] _) (fun _ _ h=>by cases h));have HS0:Hid (w1.drew.cell? ⟨g,2,none⟩=some (.slice (some ⟨gp,0,none⟩) ps.length c)∧w1.drew.rangeAt b 0 z):=⟨HMd.out.c2,hB1.drew.range⟩;have HSK:Hid (∀w2,Mod [gp] w1.drew w2→w2.cell? ⟨g,2,none⟩=some (.slice (some ⟨gp,0,none⟩) ps.length c)∧w2.rangeAt b 0 z):=fun w2 m2=>
  ⟨by rw [(HMd.out.blk.mod m2 (fun e=>Zm HMd.out.pls HMd.out.blk Zjw (by simp at e;rw [e];rfl))).cell];rfl,(hB1.drew.mod m2 (by simpa using hpne)).range⟩
 clear hB1 hgne hpne;refine wp_region_held_drew (S:=fun w'=>w'.cell? ⟨g,2,none⟩=some (.slice (some ⟨gp,0,none⟩) ps.length c)∧w'.rangeAt b 0 z) (by kernel_rfl) (HS0.out) (fun hHeld=>?_);refine tkp 0 (.pointer (some ⟨g,0,none⟩)) hHeld ?_;simp only [zq];refine tkp 1 (.pointer (some ⟨g,0,none⟩)) hHeld ?_;simp only [zq];refine tkp 2 (.pointer (some ⟨g,2,none⟩)) hHeld ?_;simp only [zq];refine tkg 3 (.slice (some ⟨gp,0,none⟩) ps.length c) rfl (Or.inl ⟨by rfl,fun w hS=>by (have q1:=hS.1;go_simp)⟩) hHeld ?_;simp only [zq];refine tkp 4 (.int .i64 ((i:Int)+1)) hHeld ?_;simp only [zq];refine tkg 5 (.int .i64 (i:Int)) rfl (Or.inl ⟨by rfl,fun w hS=>by (go_simp;exact HW2.out)⟩) hHeld ?_;simp only [zq];refine tkg 6 ((.agg z.toArray)) rfl (yieldsIf_load_mid rfl 88 (.tmp 3) rfl b 0 rfl z _ (fun w hS=>hS.2) Tryz.underlying88 rfl (Zco z hz)) hHeld ?_;simp only [zq];refine tkg 7 (.agg (Value.int .i64 1::z).toArray) rfl (Or.inl ⟨by rfl,fun w hS=>Zcz _ _ 173 _ (by rfl) _ (by rw [List.map_toArray];exact Zqc z hz) w⟩) hHeld ?_;simp only [zq];refine tkp 8 (.pointer (some ⟨gp,i * (71+1),none⟩)) hHeld ?_;simp only [zq];refine wpAnyH_ready (rs:=[9]) (by kernel_rfl) (by simp) ?_;refine AllReadyH.cons rfl (fun KQ hK=>?_) AllReadyH.nil;refine Zgw _ rfl _ _ _ rfl 173 (71+1) ps.length c gp (i * (71+1)) (flatS ps) (Value.int .i64 1::z) rfl rfl (HMd.out.pls) (Yji z hz) (by have:=Nat.mul_le_mul_right (71+1) (show i+1≤ps.length from HI.out);rw [Nat.add_mul,Nat.one_mul] at this;rw [List.length_cons,Zfz z hz];exact this) (Zsh z hz 1) ?_;intro w2 hl2 m2 sz2;have hSB:=HSK.out _ m2;refine hK.out _ _ hSB (fun hHeld=>?_);clear hK KQ;refine wpAnyH_done (by kernel_rfl) ?_ _;go_wp2
 go_ret2;have hi:=HI.out;have hs:=Zdd HMd.out.wid i 1 z hi (Zfz z hz);rw [show ((1:Nat):Int)=1 from rfl] at hs;rw [hs] at hl2;refine ⟨rfl,_,_,⟨HMd.out.over m2 (ps':=ps.set i (1,z)) (by rw [List.length_set];exact hl2) (HMd.out.wid.set i 1 _ (Zfz z hz) (fun u hu=>Zsh z hz 1 u (by simp only [List.mem_cons];exact .inr (by simpa using hu)))),HINV.out.takeFree _⟩,?_,Zjz (.inl rfl) (.inl Hob.out)⟩;exact ((Mod.of_below Hbx.out _).trans' (Hm1.out.mono (fun k hk=>by simp at hk;exact Zaa.2 (.inl hk)))).trans' ((Mod.drew _ _).trans' (m2.mono (fun k hk=>by simp at hk;exact Zaa.2 (.inr (.inl (by rw [hk];rfl))))))
theorem Ztb (g:Nat) (vp vf:Value) (room:Nat) (ps:List Pl) (z:List Value) (hz:Th z) (w:World) (h:SlC w g vp vf room ps []) (hl:ps.length<room):Kc 164 #[.pointer (some ⟨g,0,none⟩),(.agg z.toArray)] w fun e w'=>e=.returned (.tuple #[.int .i64 ((ps.length+1:Nat):Int),.int .i64 0])∧TurnC w g (slB g vp vf) room (ps++[(1,z)]) [] w':=by
 have HS:Hid (∀w',Kb w w'→SlC w' g vp vf room ps []):=fun w' hb=>h.mod (Mod.of_below hb []) (fun _ _ h=>by cases h)
 have h2:=h.inv.r2;have HR:=Za h2;obtain ⟨i,hi⟩:∃i,i=ps.length:=⟨_,rfl⟩;have j0:(0:Int)≤(i:Int):=by omega
 have j1:(i:Int)<((i+1:Nat):Int):=by omega
 have hw:wrap64 (i:Int)=i:=Go.IntWalk.wrap64_in _ (by omega);have hi6:i≤65536:=by omega
 have HW2:=Za (Zop i hi6);have HI:=Za hi;have HL:=Za hl;have HINV:=Za h.inv;have HLT:Hid (∀k∈slB g vp vf,k<w.heap.size):=fun k hk=>by
  rcases Zaa.1 hk with rfl | hk | hk
  ·exact h.blk.lt
  ·exact Zdu h.pls k hk
  ·exact Zdu h.frs k hk
 have HWd:=Za h.wid;have HE:Hid (∀w,Kc 190 #[.pointer (some ⟨g,0,none⟩)] w (fun e w'=>∃vp',e=.returned (.tuple #[.int .i64 ((ps.length+1:Nat):Int),.bool true])∧SmC w' g vp' vf room (ps++[(0,zcl)]) []∧Mod (slB g vp vf) w w'∧WhereL w vp vp')→Kc 190 #[.pointer (some ⟨g,0,none⟩)] w (fun e w'=>∃gp c,e=.returned (.tuple #[.int .i64 ((i+1:Nat):Int),.bool true])∧SmC w' g (.slice (some ⟨gp,0,none⟩) (i+1) c) vf room (ps++[(0,zcl)]) []∧Mod (slB g vp vf) w w'∧WhereL w vp (.slice (some ⟨gp,0,none⟩) (i+1) c))):=by
  intro w hc;refine hc.mono ?_;rintro e w' ⟨vp',rfl,hm,m,wh⟩;obtain ⟨gp,c,rfl,_⟩:=Zat hm.pls (by simp);rw [show (ps++[((0,zcl):Pl)]).length=i+1 by simp [hi]] at hm wh;exact ⟨gp,c,by rw [hi],hm,m,wh⟩
 clear h h2 hl hi hi6;go_enter Tryz.func164,Tryz.ntmps164
 go_wp2_with (first
  |((with_reducible refine Zo 3 ?_);refine Zd _ rfl _ _ rfl _ rfl ?_;intro wx b hbx hlx Bx bx;have c0:=(HS.out _ bx).c0;have HBx:=Za Bx;have Hbx:=Za bx;have Hgb:=Za hbx;have Hlb:=Za hlx;clear hbx hlx Bx bx)
  |(go_at_call 67;refine (Zbx g _ c0).mono ?_;rintro e w' ⟨rfl,hx⟩;rw [hx];clear hx w')
  |(go_at_call 190;refine (HE.out _ (Zya g vp vf room ps _ (HS.out _ Hbx.out).toSmC HL.out HR.out)).mono ?_;rintro e w1 ⟨gp,c,rfl,hm1,m1,wh⟩;have HM1:=Za hm1;have Hm1:=Za m1;have Hwh:=Za wh;clear hm1 m1 c0 wh))
 have hbS:b ∉ slB g vp vf:=fun e=>by
  have:=HLT.out b e;have:=Hgb.out;omega
 have hpne:b≠gp:=by
  rcases Hwh.out with e | ⟨q,e,hq⟩
  ·intro e2;exact hbS (Zaa.2 (.inr (.inl (by rw [← e,e2];rfl))))
  ·simp only [Value.ownBlock,Option.some.injEq] at e;have:=Hlb.out;omega
 have hB1:Blk w1 b 88 (z).toArray:=HBx.out.mod Hm1.out hbS;have HMd:=Za (HM1.out.mod (w':=w1.drew) (Mod.drew [] _) (fun _ _ h=>by cases h));have HS0:Hid (w1.drew.cell? ⟨g,2,none⟩=some (.slice (some ⟨gp,0,none⟩) (i+1) c)∧w1.drew.rangeAt b 0 z):=⟨HMd.out.c2,hB1.drew.range⟩;have HSK:Hid (∀w2,Mod [gp] w1.drew w2→w2.cell? ⟨g,2,none⟩=some (.slice (some ⟨gp,0,none⟩) (i+1) c)∧w2.rangeAt b 0 z):=fun w2 m2=>
  ⟨by rw [(HMd.out.blk.mod m2 (fun e=>Zm HMd.out.pls HMd.out.blk Zjw (by simp at e;rw [e];rfl))).cell];rfl,(hB1.drew.mod m2 (by simpa using hpne)).range⟩
 clear hB1 hpne;refine wp_region_held_drew (S:=fun w'=>w'.cell? ⟨g,2,none⟩=some (.slice (some ⟨gp,0,none⟩) (i+1) c)∧w'.rangeAt b 0 z) (by kernel_rfl) (HS0.out) (fun hHeld=>?_);refine tkp 0 (.pointer (some ⟨g,0,none⟩)) hHeld ?_;simp only [zq];refine tkp 1 (.pointer (some ⟨g,0,none⟩)) hHeld ?_;simp only [zq];refine tkp 2 (.pointer (some ⟨g,2,none⟩)) hHeld ?_;simp only [zq];refine tkg 3 (.slice (some ⟨gp,0,none⟩) (i+1) c) rfl (Or.inl ⟨by rfl,fun w hS=>by (have q1:=hS.1;go_simp)⟩) hHeld ?_;simp only [zq];refine tkp 4 (.int .i64 ((i:Int)+1)) hHeld ?_;simp only [zq];refine tkg 5 (.int .i64 (i:Int)) rfl (Or.inl ⟨by rfl,fun w hS=>by (go_simp;exact HW2.out)⟩) hHeld ?_;simp only [zq];refine tkg 6 ((.agg z.toArray)) rfl (yieldsIf_load_mid rfl 88 (.tmp 3) rfl b 0 rfl z _ (fun w hS=>hS.2) Tryz.underlying88 rfl (Zco z hz)) hHeld ?_;simp only [zq];refine tkg 7 (.agg (Value.int .i64 1::z).toArray) rfl (Or.inl ⟨by rfl,fun w hS=>Zcz _ _ 173 _ (by rfl) _ (by rw [List.map_toArray];exact Zqc z hz) w⟩) hHeld ?_;simp only [zq];refine tkg 8 (.pointer (some ⟨gp,i * (71+1),none⟩)) rfl (Or.inl ⟨by rfl,fun w hS=>by (go_simp;intro h8;omega)⟩) hHeld ?_;simp only [zq];refine wpAnyH_ready (rs:=[9]) (by kernel_rfl) (by simp) ?_;refine AllReadyH.cons rfl (fun KQ hK=>?_) AllReadyH.nil;refine Zgw _ rfl _ _ _ rfl 173 (71+1) (i+1) c gp (i * (71+1)) (flatS (ps++[(0,zcl)])) (Value.int .i64 1::z) rfl rfl (by have:=HMd.out.pls;rw [List.length_append,List.length_singleton,← HI.out] at this;exact this) (Yji z hz) (by rw [Nat.add_mul,List.length_cons,Zfz z hz];omega) (Zsh z hz 1) ?_;intro w2 hl2 m2 sz2;have hSB:=HSK.out _ m2;refine hK.out _ _ hSB (fun hHeld=>?_);clear hK KQ;refine wpAnyH_done (by kernel_rfl) ?_ _;go_wp2
 go_ret2;have hi:=HI.out;have hs:=Zdd HMd.out.wid i 1 z (by simp;omega) (Zfz z hz);rw [show ((1:Nat):Int)=1 from rfl] at hs;rw [hs,hi,Zyv] at hl2;rw [hi] at Hwh HMd;have hwh:=Hwh.out;have hwS:WhereL w vp (.slice (some ⟨gp,0,none⟩) (ps.length+1) c):=by
  rcases hwh with e | ⟨q,e,hq⟩
  ·exact .inl e
  ·exact .inr ⟨q,e,by have:=Hbx.out.size;omega⟩
 refine ⟨by rw [hi];rfl,_,_,⟨HMd.out.over m2 (ps':=ps++[(1,z)]) (by simpa using hl2) (HWd.out.snoc 1 _ (Zfz z hz) (fun u hu=>Zsh z hz 1 u (by simp only [List.mem_cons];exact .inr (by simpa using hu)))),HINV.out.takeNew HL.out _⟩,?_,Zjz hwS (.inl rfl)⟩;exact (((Mod.of_below Hbx.out _).trans' Hm1.out).trans' (Mod.drew _ _)).trans (Zjz (g:=g) hwS (.inl rfl)) (m2.mono (fun k hk=>by simp at hk;exact Zaa.2 (.inr (.inl (by rw [hk];rfl)))))
theorem Yez (g:Nat) (vp vf:Value) (room:Nat) (ps:List Pl) (fr:List Nat) (slot:Int) (i:Nat) (z:List Value) (hz:Th z) (w:World) (h:SlC w g vp vf room ps fr) (hs:slot=(i:Int)+1) (hi:0<cnt ps i) (ht:thg ps i=z):Kc 135 #[.pointer (some ⟨g,0,none⟩),.int .i64 slot] w fun e w'=>e=.returned (.tuple #[(.agg z.toArray),.int .i64 0])∧Kb w w':=by
 have HS:Hid (∀w',Kb w w'→SlC w' g vp vf room ps fr):=fun w' hb=>h.mod (Mod.of_below hb []) (fun _ _ h=>by cases h)
 have HI:=Za hi;have HE:=Za hs;have HTh:=Za ht;obtain ⟨gp,c,rfl,_,hil,j0,j1,hw,hm⟩:=h.at i hi;have HIL:=Za hil;have HRg:Hid (∀w',Kb w w'→w'.rangeAt gp (i * (71+1)+1) z):=by
  intro w' hb j u hu;have hsl:=HS.out _ hb;have hj:j<71:=by have:=(List.getElem?_eq_some_iff.1 hu).1;rwa [Zfz z hz] at this
  rw [Zay hsl.pls _ (by have:=Nat.mul_le_mul_right (71+1) (show i+1≤ps.length from hil);rw [Nat.add_mul] at this;omega)];exact Znz hsl.wid i hil j u (by rw [HTh.out];exact hu)
 clear h hs hi ht;go_enter Tryz.func135,Tryz.ntmps135
 go_wp2_with (first
  |((with_reducible refine Zv 4 ?_);refine Zh _ rfl _ rfl _ Zal ?_;intro w1 b4 hg1 hl1 B1 b1;have c2:=(HS.out _ b1).c2;have HB1:=Za B1;have Hg1:=Za hg1;clear B1 hg1 hl1)
  |(go_at_call 114;refine (Zir g _ vf room ps fr slot i _ (HS.out _ b1) HE.out HI.out).mono ?_;rintro e w' ⟨rfl,hx⟩;rw [hx];clear hx w')
  |((with_reducible refine Zk 26 25 ?_);refine wpList_load_mid rfl _ _ rfl gp (i * (71+1)+1) rfl z _ (HRg.out _ b1) Tryz.underlying88 rfl (Zco z hz) ?_)
  |((with_reducible refine Zag 4 ?_);refine Zf _ rfl _ _ _ rfl b4 _ (z).toArray rfl rfl HB1.out (Zco z hz) (Zkx z hz) (all_oneCell_toArray (fun u hu=>Zsh z hz 1 u (by simp only [List.mem_cons];exact .inr (by simpa using hu)))) ?_;intro w2 B2 g2))
 exact bodyPost_ret (v:=.tuple #[(.agg z.toArray),.int .i64 0]) (Zbs rfl _ _ b4 _ _ rfl rfl B2 Tryz.underlying88 (Zco z hz)) rfl ⟨rfl,Ze b1 g2 Hg1.out⟩
theorem Yau (g:Nat) (vp vf:Value) (room:Nat) (ps:List Pl) (fr:List Nat) (slot:Int) (w:World) (h:SlC w g vp vf room ps fr) (hv:Vac ps slot):Kc 135 #[.pointer (some ⟨g,0,none⟩),.int .i64 slot] w fun e w'=>e=.returned (.tuple #[(.agg zcl.toArray),.int .i64 7])∧Kb w w':=by
 have HS:Hid (∀w',Kb w w'→SlC w' g vp vf room ps fr):=fun w' hb=>h.mod (Mod.of_below hb []) (fun _ _ h=>by cases h)
 have HV:=Za hv;clear h hv;go_enter Tryz.func135,Tryz.ntmps135
 go_wp2_with (first
  |((with_reducible refine Zv 4 ?_);refine Zh _ rfl _ rfl _ Zal ?_;intro w1 b4 hg1 hl1 B1 b1;have HB1:=Za B1;have Hg1:=Za hg1;have Hl1:=Za hl1;clear B1 hg1 hl1)
  |(go_at_call 114;refine (Zoj g _ vf room ps fr slot _ (HS.out _ b1) HV.out).mono ?_;rintro e w' ⟨rfl,hx⟩;rw [hx];clear hx w')
  |((with_reducible refine Zv 8 ?_);refine Zh _ rfl _ rfl _ Zal ?_;intro w2 b8 hg2 hl2 B2 b2;have HB2:=Za B2;have HB1':=Za (HB1.out.grow b2);have Hb2:=Za b2;have hne:b4≠b8:=(by have:=Hl1.out;omega);clear B2 hg2 hl2 b2)
  |((with_reducible refine Zk 17 8 ?_);refine wpList_load_mid rfl _ _ rfl b8 0 rfl zcl _ HB2.out.range Tryz.underlying88 rfl (Zco zcl Zoo) ?_)
  |((with_reducible refine Zag 4 ?_);refine Zf _ rfl _ _ _ rfl b4 _ zcl.toArray rfl rfl HB1'.out (Zco zcl Zoo) rfl (all_oneCell_toArray Zoo.2) ?_;intro w3 B3 g3))
 exact bodyPost_ret (v:=.tuple #[(.agg zcl.toArray),.int .i64 7]) (Zbs rfl _ _ b4 _ _ rfl rfl B3 Tryz.underlying88 (Zco zcl Zoo)) rfl ⟨rfl,Ze (Zb b1 Hb2.out) g3 Hg1.out⟩
theorem Ydb (g:Nat) (vp vf:Value) (room:Nat) (ps:List Pl) (fr:List Nat) (slot:Int) (i:Nat) (z:List Value) (hz:Th z) (w:World) (h:SlC w g vp vf room ps fr) (hs:slot=(i:Int)+1) (hi:0<cnt ps i):Kc 176 #[.pointer (some ⟨g,0,none⟩),.int .i64 slot,(.agg z.toArray)] w fun e w'=>e=.returned (.int .i64 0)∧TurnC w g (slB g vp vf) room (ps.set i (cnt ps i,z)) fr w':=by
 have HS:Hid (∀w',Kb w w'→SlC w' g vp vf room ps fr):=fun w' hb=>h.mod (Mod.of_below hb []) (fun _ _ h=>by cases h)
 have HI:=Za hi;have HE:=Za hs;have HLE:=Za (h.inv.most i);have HINV:=Za h.inv;have HLT:Hid (∀k∈slB g vp vf,k<w.heap.size):=fun k hk=>by
  rcases Zaa.1 hk with rfl | hk | hk
  ·exact h.blk.lt
  ·exact Zdu h.pls k hk
  ·exact Zdu h.frs k hk
 obtain ⟨gp,c,rfl,_,hil,j0,j1,hw,hm⟩:=h.at i hi;have HIL:=Za hil;clear h hs hi;go_enter Tryz.func176,Tryz.ntmps176
 go_wp2_with (first
  |((with_reducible refine Zo 5 ?_);refine Zd _ rfl _ _ rfl _ rfl ?_;intro wx b hbx hlx Bx bx;have HBx:=Za Bx;have Hbx:=Za bx;have Hgb:=Za hbx;clear hbx hlx Bx bx)
  |(go_at_call 114;refine (Zir g _ vf room ps fr slot i _ (HS.out _ Hbx.out) HE.out HI.out).mono ?_;rintro e w' ⟨rfl,hx⟩;rw [hx];clear hx w'))
 have hgne:b≠g:=by
  have:=HLT.out g (Zaa.2 (.inl rfl));have:=Hgb.out;omega
 have hpne:b≠gp:=by
  have:=HLT.out gp (Zaa.2 (.inr (.inl rfl)));have:=Hgb.out;omega
 have hB1:Blk wx b 88 (z).toArray:=HBx.out;have HMd:=Za ((HS.out _ Hbx.out).toSmC.mod (w':=wx.drew) (Mod.drew [] _) (fun _ _ h=>by cases h));have HS0:Hid (wx.drew.cell? ⟨g,2,none⟩=some (.slice (some ⟨gp,0,none⟩) ps.length c)∧wx.drew.rangeAt b 0 z):=⟨HMd.out.c2,hB1.drew.range⟩;have HSK:Hid (∀w2,Mod [gp] wx.drew w2→w2.cell? ⟨g,2,none⟩=some (.slice (some ⟨gp,0,none⟩) ps.length c)∧w2.rangeAt b 0 z):=fun w2 m2=>
  ⟨by rw [(HMd.out.blk.mod m2 (fun e=>Zm HMd.out.pls HMd.out.blk Zjw (by simp at e;rw [e];rfl))).cell];rfl,(hB1.drew.mod m2 (by simpa using hpne)).range⟩
 clear hB1 hgne hpne;refine wp_region_held_drew (S:=fun w'=>w'.cell? ⟨g,2,none⟩=some (.slice (some ⟨gp,0,none⟩) ps.length c)∧w'.rangeAt b 0 z) (by kernel_rfl) (HS0.out) (fun hHeld=>?_);refine tkp 0 (.pointer (some ⟨g,0,none⟩)) hHeld ?_;simp only [zq];refine tkp 1 (.pointer (some ⟨g,0,none⟩)) hHeld ?_;simp only [zq];refine tkp 2 (.pointer (some ⟨g,2,none⟩)) hHeld ?_;simp only [zq];refine tkg 3 (.slice (some ⟨gp,0,none⟩) ps.length c) rfl (Or.inl ⟨by rfl,fun w hS=>by (have q1:=hS.1;go_simp)⟩) hHeld ?_;simp only [zq];refine tkp 4 (.int .i64 (i:Int)) hHeld ?_;simp only [zq];refine tkg 5 ((.agg z.toArray)) rfl (yieldsIf_load_mid rfl 88 (.tmp 5) rfl b 0 rfl z _ (fun w hS=>hS.2) Tryz.underlying88 rfl (Zco z hz)) hHeld ?_;simp only [zq];refine tkp 6 (.pointer (some ⟨gp,i * (71+1),none⟩)) hHeld ?_;simp only [zq];refine tkp 7 (.pointer (some ⟨gp,i * (71+1)+1,none⟩)) hHeld ?_;simp only [zq];refine wpAnyH_ready (rs:=[8]) (by kernel_rfl) (by simp) ?_;refine AllReadyH.cons rfl (fun KQ hK=>?_) AllReadyH.nil;refine Zgw _ rfl _ _ _ rfl 173 (71+1) ps.length c gp (i * (71+1)+1) (flatS ps) z rfl rfl (HMd.out.pls) (Zco z hz) (by have:=Nat.mul_le_mul_right (71+1) (show i+1≤ps.length from HIL.out);rw [Nat.add_mul,Nat.one_mul] at this;rw [Zfz z hz];omega) (hz.2) ?_;intro w2 hl2 m2 sz2;have hSB:=HSK.out _ m2;refine hK.out _ _ hSB (fun hHeld=>?_);clear hK KQ;refine wpAnyH_done (by kernel_rfl) ?_ _;go_wp2
 go_ret;have hs2:=Ziu HMd.out.wid i z HIL.out (Zfz z hz);rw [hs2] at hl2;refine ⟨rfl,_,_,⟨HMd.out.over m2 (ps':=ps.set i (cnt ps i,z)) (by rw [List.length_set];exact hl2) (HMd.out.wid.set i _ _ (Zfz z hz) hz.2),HINV.out.held HI.out HI.out HLE.out _⟩,?_,New.refl _ _⟩;exact (Mod.of_below Hbx.out _).trans' ((Mod.drew _ _).trans' (m2.mono (fun k hk=>by simp at hk;exact Zaa.2 (.inr (.inl (by rw [hk];rfl))))))
theorem Ztl (g:Nat) (vp vf:Value) (room:Nat) (ps:List Pl) (fr:List Nat) (w:World) (h:SlC w g vp vf room ps fr):Kc 66 #[.pointer (some ⟨g,0,none⟩)] w fun e w'=>∃a c,e=.returned (.slice a (slotsOf ps).length c)∧w'.ownsRow w.heap.size 3 1 (.slice a (slotsOf ps).length c) (slotsOf ps).length (nats (slotsOf ps))∧Kb w w':=by
 have c0:=h.c0;have HS:=Za h;have hl:=h.inv.len;have hr:=h.inv.r2;have hs:=h.inv.sum;have ho:occs ps≤65536:=by omega
 have hp:ps.length≤65536:=by omega
 clear h hl hr hs;go_enter Tryz.func66,Tryz.ntmps66
 go_wp2_with (first
  |(go_at_call 67;refine (Zbx g _ c0).mono ?_;rintro e w' ⟨rfl,hx⟩;rw [hx];clear hx w')
  |(go_at_call 31;refine (Zvn g vp vf room ps fr _ HS.out).mono ?_;rintro e w1 ⟨rfl,b1⟩;have HS1:=Za (HS.out.mod (Mod.of_below b1 []) (fun _ _ h=>(by cases h)));have c2:=HS1.out.c2;obtain ⟨pa,pc,rfl⟩:=Zj HS1.out.pls)
  |(at_make;refine Zqm _ rfl _ _ _ 3 Tryz.underlying28 (.int .i64 0) 8 ⟨_,rfl,rfl,rfl,rfl⟩ rfl rfl _ _ _ _ 0 (occs ps) rfl rfl rfl rfl (by omega) (by omega) (by omega) ?_;intro w2 o2 bb2 _;have hcc:=HS1.out.c2;have c2':=Zx bb2 hcc;clear hcc))
 have hb2:Kb w w2:=b1.trans (bb2.mono b1.size);have HO:Hid (w2.ownsRow w.heap.size 3 1 (.slice (some ⟨w1.heap.size,0,none⟩) 0 (occs ps)) (slotsK ps 0).length (nats (slotsK ps 0))):=⟨by simp [slotsK,nats],.inr (by
  rcases o2.2 with ⟨h,_⟩ | ⟨g',cap,cur,h1,h2,h3⟩
  ·cases h
  ·exact ⟨g',cap,cur,h1,Nat.le_trans b1.size h2,h3⟩)⟩
 clear o2 bb2 b1 c2 HS1
 go_loopw [3,16] (fun v i wr=>∃(k:Nat) (a:Option Addr) (c:Nat),k≤ps.length∧i=.int .i64 k∧v=.slice a (slotsK ps k).length c∧Hid (wr.ownsRow w.heap.size 3 1 (.slice a (slotsK ps k).length c) (slotsK ps k).length (nats (slotsK ps k)))∧Kb w wr) (fun _ i _=>ps.length-(intOf i).toNat)
 case atStart=>exact ⟨0,_,_,by omega,rfl,rfl,HO,hb2⟩
 case round=>
  clear HO hb2;obtain ⟨k,a,c,hk,rfl,rfl,hO,hbl⟩:=hrel;have hle:=Ztm ps k;have HS1:=Za (HS.out.mod (Mod.of_below hbl []) (fun _ _ h=>by cases h));have c2:=HS1.out.c2;have hwk:wrap64 ((k:Int)+1)=((k+1:Nat):Int):=by rw [Go.IntWalk.wrap64_in _ (by omega)];rfl
  by_cases hlt:k<ps.length
  ·have i1:(k:Int)<(ps.length:Int):=by omega
   have i0:(0:Int)≤(k:Int):=by omega
   obtain ⟨gp,pc',e,_⟩:=Zat HS1.out.pls (by omega);injection e with e1 _ e3;subst e1;subst e3;have c4:=HS1.out.count k hlt;obtain ⟨q,hq0⟩:∃q,q=cnt ps k:=⟨_,rfl⟩;rw [← hq0] at c4
   by_cases hc:0<cnt ps k
   ·have hys:=Zeq ps k hc;have HY:=Za hys;have hq:(0:Int)<(q:Int):=by omega
    clear hc hys hq0;have HLE:=Za hle;have HPP:=Za hp;generalize hm:(slotsK ps k).length=m at *;have HM:=Za hm;clear hm
    go_wp2_with (at_builtin;refine Zai _ rfl _ _ _ rfl w.heap.size 3 1 8 Tryz.underlying28 Zah (by omega) _ m (nats (slotsK ps k)) rfl (hO.out.alloc _) wr.heap.size [Value.int .i64 ((k:Int)+1)] rfl (Blk.new _ _ _) rfl (by intro u hu;simp at hu;subst hu;rfl) (by have:=HLE.out;have:=HPP.out;simp only [maxLen];omega) (by have:=HLE.out;have:=HPP.out;omega) (by have:=hbl.size;simp;omega) ?_;intro a3 c3 w3 o3 g3)
    have e3:(slotsK ps (k+1)).length=m+1:=by rw [HY.out,List.length_append,HM.out];rfl
    refine ⟨⟨k+1,a3,c3,by omega,by go_num,by rw [e3],?_,?_⟩,by simp [intOf];omega⟩
    ·show World.ownsRow _ _ _ _ _ _ _;rw [e3,HY.out,Zan];exact o3
    ·exact (hbl.trans ((Zc wr _).mono hbl.size)).grown g3 (by have:=hbl.size;simp;omega) (fun q hq=>(hO.out.lt q hq).1)
   ·have hno:=Zfk ps k hc;have HY:=Za hno;have hqz:q=0:=by omega
    subst hqz;clear hc hno hq0;go_wp2
    refine ⟨⟨k+1,a,c,by omega,by go_num,by rw [HY.out],?_,hbl⟩,by simp [intOf];omega⟩;rw [HY.out];exact hO
  ·obtain rfl:k=ps.length:=by omega
   have HO2:=hO;clear hO;generalize hm:(slotsK ps ps.length).length=m at *;have HM:=Za hm;clear hm;go_wp2
   go_ret;have e:(slotsOf ps).length=m:=HM.out;refine ⟨a,c,by rw [e];rfl,?_,hbl⟩;rw [e];exact HO2.out
def HsC (w0 w:World) (g room:Nat) (ps:List Pl) (fr:List Nat):Prop:=∃vp vf,SlC w g vp vf room ps fr∧(∀k∈slB g vp vf,w0.heap.size≤k)∧Kb w0 w
end Go.Proofs.YtlclabbnpjobgaaGreatDoor
