/- BatchApplies' walk. -/
import Derived.Test.YtabiglnmfdpcfaaGreatDoorBz01
import Derived.Test.YtabiglnmfdpcfaaGreatDoorBz46
import Derived.Test.YtabiglnmfdpcfaaGreatDoorRows
import Derived.ProofKit
import Derived.OpenShut
import Derived.ShutString
import Derived.ChangeOld
import Derived.Below
import Derived.SizedLaws
import Derived.Test.YtabiglnmfdpcfaaGreatDoorBz02
import Derived.Test.YtabiglnmfdpcfaaGreatDoorBz03
import Derived.Deep.Slices
namespace Go.Proofs.YtabiglnmfdpcfaaGreatDoor
variable {E es:List Ent}
variable {n:Nat}
variable {v:Value}
variable {w w1:World}
set_option maxRecDepth 20000
open Go.RowKit

theorem wrap_258 (k m:Nat) (h:k≤70) (hm:m=258 * k):wrap64 (258 * (k:Int))=(m:Int):=by
  rw [Go.IntWalk.wrap64_in _ (by omega)];omega
theorem wrap_sum (a b c:Nat) (h:a+b≤1000000) (hc:c=a+b):wrap64 ((a:Int)+(b:Int))=(c:Int):=by
  rw [Go.IntWalk.wrap64_in _ (by omega)];omega
theorem prAt_slice {V:Nat→Value} (h:PrAt w v V es):∃a c,v=.slice a es.length c:=by
  obtain ⟨a,c,e,_⟩:=h;exact ⟨a,c,e⟩
theorem ov_pack {x x':World} {v2:Value} {V:Nat→Value} {ls qs ks rs:List Wt} (m:Mq w w1 v V E) (hk:Lat qs ks) (e:qs.map nrm=ls.map nrm) (hl:ls.any tooL=false) (h:Lat ((wes E++ls).map nrm) (rs.map nrm)) (own:x'.ownsRow x.heap.size 62 33 v2 (itsOf rs).length (flatP (itsOf rs))) (rd:∀y∈rs,WtOk y∧Reads x' y.v y.b) (few:rs.length≤E.length+ls.length) (hn:n=ls.length∧n≤70):∃(V2:Nat→Value) (F:List Ent) (fl:Nat),PrAt x' v2 V2 F∧OvF E ks F∧F.length≤80∧fl=F.length:=by
  have hp:=prAt_its own rd;rw [itsOf_ent] at hp;refine ⟨_,entW rs,_,hp,ovF_of m.rise m.small hk e hl h,?_,rfl⟩;have h1:(entW rs).length≤rs.length:=by
    unfold entW;rw [List.length_map];exact List.length_filter_le _ _
  have h2:=m.len;omega

set_option maxRecDepth 100000 in
set_option maxHeartbeats 16000000 in
theorem applies_walk (lv wv:Value) (V:Nat→Value) (es:List Ent) (ls:List Wt) (hb:Bool) (room:Int) (w:World) (hL:Laid w) (hv:PrAt w lv V es) (hes:es.length≤9000000000000000000) (hw:WrAt w wv ls) (hll:∀x∈ls,x.b.length≤140737488355328-4096) (hln:ls.length≤140737488355328):
    Kc 3 #[lv,wv,.bool hb,.int .i64 room] w fun e w'=>e=.returned (.bool true)∧Kb w w':=by
  have HMP:Hid (Kc 5 #[lv] w fun e w'=>∃v1 V1 E,e=.returned v1∧Mq w w' v1 V1 E):=(map11_any lv V es w hv hes).mono fun e w' h=>mq_of h
  have HWR:=hidden hw;obtain ⟨wad,wc,rfl⟩:∃wad wc,wv=.slice wad ls.length wc:=by obtain ⟨a,c,e,_⟩:=id hw;exact ⟨a,c,e⟩
  obtain ⟨la,lc,rfl⟩:∃la lc,lv=.slice la es.length lc:=by obtain ⟨a,c,e,_⟩:=id hv;exact ⟨a,c,e⟩
  obtain ⟨n,hn⟩:∃n,n=ls.length:=⟨_,rfl⟩;obtain ⟨m,hm⟩:∃m,m=es.length:=⟨_,rfl⟩
  by_cases h70:70<n
  · have z70:(70:Int)<(n:Int):=by omega
    rw [← hm] at HMP;rw [← hm,← hn];clear hv hw hL hll hln hes HWR hm hn;go_enter Tryz.func3,Tryz.ntmps3
    go_wp2_with (go_at_call 5;refine HMP.out.mono ?_;rintro e x1 ⟨v1,V1,E,rfl,mq⟩;have HMQ:=hidden mq.bel;clear mq)
    go_ret;exact ⟨rfl,HMQ.out⟩
  have z70: ¬(70:Int)<(n:Int):=by omega
  have HN:Hid (n=ls.length∧n≤70):=⟨hn,by omega⟩;have HPK:Hid (∀w',Kc 6 #[.int .i64 room,.int .i64 30000] w' fun e w''=>(∃p:Nat,p<30000∧e=.returned (.int .i64 (p:Int)))∧w''=w'):=fun w'=>(pick_any room 30000 w' (by omega) (by omega)).mono fun e w'' ⟨h1,h2⟩=>⟨⟨(room % 30000).toNat,by omega,by rw [h1];congr 2;omega⟩,h2⟩
  have HNW:Hid (∀(R:Nat) w',1≤R→R≤65536→Kc 7 #[.int .i64 (R:Int)] w' fun e w''=>∃g gs,e=.returned (.tuple #[.pointer (some ⟨g,0,none⟩),.int .i64 0])∧Hs w' [] w'' g gs R [] []):=fun R w' h1 h2=>hs_new R w' h1 h2
  have HLW:Hid (∀w',Kb w w'→Kc 12 #[.slice wad n wc] w' (LentWPost ls w')):=fun w' h=>by
    rw [hn];exact lentWrites_any _ ls w' (hw.grow h) (by omega) hll
  have HKW:Hid (∀w' gq Gq,Kb w w'→LentWr w' gq n Gq ls→Kc 14 #[.slice (some ⟨gq,0,none⟩) n (n+2),.slice wad n wc] w' fun e w''=>e=.returned (.bool true)∧Below w'.heap.size w' w''):=fun w' gq Gq h h2=>by
    rw [hn] at h2 ⊢;exact kept_lent h2 (hw.grow h) (by omega) hll
  have HRO:Hid (∀w',Kb w w'→Kc 15 #[.slice wad n wc] w' (RoPost ls w')):=fun w' h=>by
    rw [hn];exact rorder_any _ ls w' (hw.grow h) (by omega) (fun x hx=>by have:=hll x hx;omega)
  have HROV:Hid (∀x1 v1 V1 E w',Mq w x1 v1 V1 E→Kb x1 w'→Kc 16 #[v1,.slice wad n wc] w' (RvPost E ls w')):=fun x1 v1 V1 E w' mq h=>by
    rw [hn];exact roverride_any _ _ V1 E ls w' (mq.pr.grow h) (hw.grow (grow_trans mq.bel h)) (by have:=mq.len;omega) (fun i hi=>by have:=mq.small _ (List.getElem_mem hi);simp only [List.getD,List.getElem?_eq_getElem hi,Option.getD_some];omega) (fun x hx=>by have:=hll x hx;omega)
  have HWS:Hid (0<n→∃gw ow,wad=some ⟨gw,ow,none⟩∧∀i,i<n→∀z,Kb w z→z.cell? ⟨gw,ow+i * 34+32,none⟩=some (.bool ls[i]!.g)∧z.cell? ⟨gw,ow+i * 34+33,none⟩=some ls[i]!.v):=fun h0=>by
    obtain ⟨gw,ow,e,h1⟩:=wr_side hw (by omega);refine ⟨gw,ow,e,fun i hi z hz=>?_⟩;have hl:ls[i]!.k.length=32:=by rw [getElem!_pos ls i (by omega)];exact (hw.ok _ (List.getElem_mem _)).hk.1
    have h2:=rngW_grow (h1 i (by omega)) hz;exact ⟨encW_gone h2 hl,encW_val h2 hl⟩
  have HWV:Hid (∀i,i<n→∃va vc,ls[i]!.v=.slice va ls[i]!.b.length vc):=fun i hi=>by
    rw [getElem!_pos ls i (by omega)];exact (hw.ok _ (List.getElem_mem _)).hv
  have HL0:=hidden hL;rw [← hm] at HMP;rw [← hm,← hn];clear hv hw hL hll hln hes hm hn h70;go_enter Tryz.func3,Tryz.ntmps3
  go_upto_region 5 with (first
    |(go_at_call 5;refine HMP.out.mono ?_;rintro e x1 ⟨v1,V1,E,rfl,mq⟩;obtain ⟨ea1,ec1,e1⟩:=prAt_slice mq.pr;subst e1;obtain ⟨el,hel⟩:∃el,el=E.length:=⟨_,rfl⟩;rw [← hel] at mq ⊢;have HMQ:=hidden mq;have HEL:=hidden hel;clear mq hel HMP)
    |(go_at_call 6;refine (HPK.out _).mono ?_;rintro e xp ⟨⟨p,hp,rfl⟩,hx⟩;rw [hx];obtain ⟨R,hR⟩:∃R,R=3000+p:=⟨_,rfl⟩;have hwr:wrap64 (3000+(p:Int))=(R:Int):=(by rw [Go.IntWalk.wrap64_in _ (by omega)];omega);have HRR:Hid (3000≤R∧R≤33000):=⟨by omega,by omega⟩;clear hx xp hp hR))
  rw [hwr];have HH0:=hidden (HNW.out R x1 (by have:=HRR.out;omega) (by have:=HRR.out;omega));clear hwr HPK HNW
  go_upto_region 8 with (go_at_call 7;refine HH0.out.mono ?_;rintro e x2 ⟨g,gs,rfl,hh⟩;have HH:=hidden hh;clear hh HH0)
  have HLD:Hid (∀z,Kb x1 z→Laid z):=fun z hz=>HL0.out.grow (grow_trans HMQ.out.bel hz)
  obtain ⟨P,hP⟩:∃P:World→Prop,P=fun z=>Kb x1 z:=⟨_,rfl⟩
  have HP0:Hid (∀z,P z→Kb x1 z):=by rw [hP];exact fun z h=>h
  have HBD:=hidden (bq_build HH.out HLD.out (fun z hz=>HMQ.out.pr.grow hz) (Nat.le_trans HMQ.out.len (by omega)) (rise_ne HMQ.out.rise) HMQ.out.small (by have h1:=HMQ.out.len;have h2:=HRR.out.1;have h3:E.length * 257≤10 * 257:=Nat.mul_le_mul_right _ h1;omega) P (by rw [hP];exact fun z h=>h));clear hP HH
  go_upto_region 9 with (go_at_call 8;refine HBD.out.mono ?_;rintro e x3 ⟨root,o,rfl,hb3,ho⟩;have HB:=hidden hb3;have HO:Hid (o≤2570):=(by have h1:=HMQ.out.len;have h3:E.length * 257≤10 * 257:=Nat.mul_le_mul_right _ h1;show o≤2570;omega);clear hb3 ho HBD)
  obtain ⟨D,hD⟩:∃D,D=rt 256 0 E:=⟨_,rfl⟩;have hDl:D.length=32:=by rw [hD];exact rt_len (Nat.le_trans HMQ.out.len (by omega)) HMQ.out.small (rise_ne HMQ.out.rise)
  have HDG:Hid (∀w' rs o' P',(root,E)∈rs→Bq x1 w' g gs R rs o' P'→Kc 11 #[.pointer (some ⟨g,0,none⟩),.int .i64 (root:Int)] w' fun e w''=>e=.returned (.agg (B D))∧Below w'.heap.size w' w''):=fun w' rs o' P' hi h=>by
    rw [hD];exact h.dig hi (HLD.out _ h.low)
  have HHZ:Hid ((Tryz.prog.info? 39).map (·.size)=some (B D).size∧(B z32).size=(B D).size):=⟨by rw [B_size,hDl];exact size_hash,by rw [B_size,B_size,hDl];rfl⟩;have HHD:Hid ((Tryz.prog.info? 39).map (·.size)=some (B D).toList.length):=by show _=_;rw [B_toList,List.length_map,hDl];exact size_hash
  have hEq:=hash_eq D D hDl hDl;simp only [decide_true] at hEq;have HOV:Hid (∀w',Kb x1 w'→Kc 16 #[.slice ea1 el ec1,.slice wad n wc] w' (RvPost E ls w')):=fun w' h=>HROV.out _ _ _ _ w' HMQ.out h
  clear hD hDl HROV HL0;have hb3:hb=false∨(hb=true∧root=0)∨(hb=true∧root≠0):=by
    cases hb with
    | false=>exact .inl rfl
    | true=>
      by_cases h0:root=0
      · exact .inr (.inl ⟨rfl,h0⟩)
      · exact .inr (.inr ⟨rfl,h0⟩)
  rcases hb3 with hbf | hbt
  · subst hbf
    obtain ⟨rs0,hrs0⟩:∃rs0,rs0=([]:List (Nat×List Ent)):=⟨_,rfl⟩;rw [← hrs0] at HB;have HR0:=hidden hrs0;have HFEW:Hid (rs0.length≤1000):=by show _≤_;rw [hrs0];simp
    clear hrs0
    go_upto_region 12 with fail
    obtain ⟨b0,hb0⟩:∃b0,decide ((64:Int)<(n:Int))=b0:=⟨_,rfl⟩;have HB64:Hid (b0=decide (64<n)):=by show _=_;rw [← hb0];exact decide_eq_decide.2 (by omega)
    go_wp2_with fail
    go_loopw [13,14] (fun lv iv wr=>∃(k:Nat) (b:Bool),k≤n∧lv=.bool b∧iv=.int .i64 (k:Int)∧Hid (b=(b0 || (ls.take k).any tooL))∧Hid (Bq x1 wr g gs R ((root,E)::rs0) o P)) (fun _ iv _=>n-(intOf iv).toNat)
    case atStart=>exact ⟨0,b0,by omega,by first | rfl | rw [hb0],rfl,by show _=_;simp,HB.out⟩
    case round=>
      clear HB hb0;obtain ⟨k,b,hk,rfl,rfl,hbl,HB⟩:=hrel
      by_cases hlt:k<n
      · as_aux_lemma=>
          have hkl:k<ls.length:=by have:=HN.out.1;omega
          obtain ⟨gw,ow,rfl,hcell⟩:=HWS.out (by omega);obtain ⟨c1g,c2v⟩:=hcell k hlt wr (grow_trans HMQ.out.bel HB.out.low);obtain ⟨va,vc,hv⟩:=HWV.out k hlt;rw [hv] at c2v;obtain ⟨gx,hgx⟩:∃gx,gx=ls[k]!.g:=⟨_,rfl⟩;obtain ⟨vl,hvl⟩:∃vl,vl=ls[k]!.b.length:=⟨_,rfl⟩;have hto:tooL ls[k]! =(!gx && decide (1024<vl)):=by rw [hgx,hvl];rfl
          rw [← hgx] at c1g;rw [← hvl] at c2v;have z1:(k:Int)<(n:Int):=by omega
          have z0:(0:Int)≤(k:Int):=by omega
          have HNX:Hid ((b0 || (ls.take (k+1)).any tooL)=(b || (!gx && decide (1024<vl)))):=by
            show _=_;rw [any_take2 ls k hkl,hto,hbl.out,Bool.or_assoc]
          clear hcell hv hgx hvl hto hbl hkl HWS HWV HWR HLW HKW HRO;cases b with
          | true=>
            have HN2:Hid (true=(b0 || (ls.take (k+1)).any tooL)):=by show _=_;rw [HNX.out];rfl
            clear HNX
            go_wp2_with fail
            exact ⟨⟨k+1,true,by omega,rfl,by go_num,HN2.out,HB.out⟩,by simp [intOf];omega⟩
          | false=>
            cases gx with
            | true=>
              have HN2:Hid (false=(b0 || (ls.take (k+1)).any tooL)):=by show _=_;rw [HNX.out];rfl
              clear HNX
              go_wp2_with fail
              exact ⟨⟨k+1,false,by omega,rfl,by go_num,HN2.out,HB.out⟩,by simp [intOf];omega⟩
            | false=>
              by_cases h1:1024<vl
              · have y1:(1024:Int)<(vl:Int):=by omega
                have HN2:Hid (true=(b0 || (ls.take (k+1)).any tooL)):=by show _=_;rw [HNX.out,decide_eq_true h1];rfl
                clear HNX
                go_wp2_with fail
                exact ⟨⟨k+1,true,by omega,rfl,by go_num,HN2.out,HB.out⟩,by simp [intOf];omega⟩
              · have y1: ¬(1024:Int)<(vl:Int):=by omega
                have HN2:Hid (false=(b0 || (ls.take (k+1)).any tooL)):=by show _=_;rw [HNX.out,decide_eq_false h1];rfl
                clear HNX
                go_wp2_with fail
                exact ⟨⟨k+1,false,by omega,rfl,by go_num,HN2.out,HB.out⟩,by simp [intOf];omega⟩
      · as_aux_lemma=>
          have z1: ¬(k:Int)<(n:Int):=by omega
          have hkn:k=n:=by omega
          have HBA:Hid (b=(decide (64<n) || ls.any tooL)):=by
            show _=_;rw [hbl.out,← HB64.out,List.take_of_length_le (by rw [← HN.out.1];omega)]
          clear hbl hk hlt hkn HWS HWV HB64
          go_wp2_with (first
            |(go_at_call 10;refine HB.out.occ.mono ?_;rintro e x5 ⟨rfl,b5⟩;replace HB:=hidden (HB.out.grow b5);clear b5)
            |(go_at_call 11;refine (HDG.out _ _ _ _ List.mem_cons_self HB.out).mono ?_;rintro e x6 ⟨rfl,b6⟩;replace HB:=hidden (HB.out.grow b6);clear b6)
            |((with_reducible refine at_ald 16 ?_);refine wpList_al _ rfl _ rfl _ zero_hash ?_;intro x7 gd hgd hld BD q7;have HBD:=hidden BD;have HGD:=hidden hgd;have HQ7:=hidden q7;clear hgd hld BD q7)
            |((with_reducible refine at_st 16 ?_);refine wpList_sto _ rfl _ _ _ rfl gd _ (B D) rfl rfl HBD.out HHZ.out.1 HHZ.out.2 (B_one _) ?_;intro x8 BD2 r8;have b8:=below_row HQ7.out r8 HGD.out;obtain ⟨P1,hP1,hb8⟩:=bq_var HB.out b8 BD2 HGD.out;replace HB:=hidden hb8;have HP1:=hidden hP1;clear BD2 r8 b8 hP1 hb8 HBD HGD HQ7)
            |(go_at_call 12;refine (HLW.out _ (grow_trans HMQ.out.bel HB.out.low)).mono ?_;rintro e x9 ⟨gq,Gq,rfl,q1,q2,q3,q4,b9⟩;rw [← HN.out.1] at q2 q4 ⊢;obtain ⟨PP,hPP,hb9⟩:=bq_lent HB.out b9 q4 q1 q2;replace HB:=hidden hb9;have HPP:Hid (∀z,PP z→Kb x1 z∧Blk z gd 39 (B D)∧LentWr z gq n Gq ls):=fun z h=>⟨HP0.out z (HP1.out z (hPP z h).1).1,(HP1.out z (hPP z h).1).2,(hPP z h).2⟩;clear q1 q2 q3 q4 b9 hPP hb9 HP1))
          have HWQ:Hid (∀z,PP z→WrAt z (.slice (some ⟨gq,0,none⟩) n (n+2)) (lwL ls Gq)):=fun z hz=>by
            have h1:=(HPP.out z hz).2.2;rw [HN.out.1] at h1 ⊢;exact h1.wrAt HWR.out.ok
          have HLQ:Hid ((lwL ls Gq).length≤65536):=by show _≤_;rw [lwL_len,← HN.out.1];exact Nat.le_trans HN.out.2 (by omega)
          have HLA:Hid (∀z,PP z→Laid z):=fun z hz=>HLD.out z (HPP.out z hz).1
          have HTE:Hid ((lwL ls Gq).any tooL=ls.any tooL):=any_tooL (lwL_nrm ls Gq);cases b with
          | true=>
            as_aux_lemma=>
              have HLONG:Hid (64<(lwL ls Gq).length∨(lwL ls Gq).any tooL=true):=by
                show _∨_;rw [lwL_len,HTE.out,← HN.out.1];have h1:=HBA.out;rcases Bool.or_eq_true_iff.1 h1.symm with h | h
                · exact .inl (of_decide_eq_true h)
                · exact .inr h
              clear HBA HOV
              go_wp2_with (first
                |(go_at_call 13;refine (HB.out.refused _ (lwL ls Gq) HWQ.out HLQ.out 4 (.inl ⟨HLONG.out,rfl⟩)).mono ?_;rintro e x10 ⟨rfl,hb10⟩;replace HB:=hidden hb10;clear hb10)
                |(go_at_call 14;refine (HKW.out _ _ _ (grow_trans HMQ.out.bel HB.out.low) (HPP.out _ HB.out.now).2.2).mono ?_;rintro e wa ⟨rfl,b11⟩;replace HB:=hidden (HB.out.grow b11);clear b11))
              have HDV:=hidden (HPP.out _ HB.out.now).2.1;refine wp_region_held_drew (S:=fun w'=>Kb wa w') (by kernel_rfl) (below_drewN (Below.refl _ _) 1) (fun hHeld=>?_);refine tkp 0 (.int .i64 4) hHeld ?_;simp only [Act.put,zq1,zq2,zq4,zq5,zq6];refine tkp 1 (.int .i64 4) hHeld ?_;simp only [Act.put,zq1,zq2,zq3,zq4,zq5,zq6];refine tkp 2 (.bool true) hHeld ?_;simp only [Act.put,zq1,zq2,zq3,zq4,zq5,zq6];refine tkp 3 (.bool true) hHeld ?_;simp only [Act.put,zq1,zq2,zq3,zq4,zq5,zq6];refine tkp 4 (.int .i64 0) hHeld ?_;simp only [Act.put,zq1,zq2,zq3,zq4,zq5,zq6];refine tkp 5 (.bool true) hHeld ?_;simp only [Act.put,zq1,zq2,zq3,zq4,zq5,zq6];refine tkp 6 (.bool true) hHeld ?_;simp only [Act.put,zq1,zq2,zq3,zq4,zq5,zq6];refine tkp 7 (.bool true) hHeld ?_;simp only [Act.put,zq1,zq2,zq3,zq4,zq5,zq6];refine tkp 8 (.pointer (some ⟨g,0,none⟩)) hHeld ?_;simp only [Act.put,zq1,zq2,zq3,zq4,zq5,zq6];refine tkp 10 (.int .i64 (o:Int)) hHeld ?_;simp only [Act.put,zq1,zq2,zq3,zq4,zq5,zq6];refine wpAnyH_ready (rs:=[9]) (by kernel_rfl) (by simp) ?_;refine AllReadyH.cons rfl (fun KQ hK=>?_) AllReadyH.nil;go_simp;refine (HB.out.grow hHeld).occ.mono ?_;rintro e y1 ⟨rfl,a1⟩;refine hK.out _ _ (grow_trans hHeld a1) (fun hHeld=>?_);clear hK KQ;refine tkp 11 (.bool true) hHeld ?_;simp only [Act.put,zq1,zq2,zq3,zq4,zq5,zq6];refine tkp 12 (.bool true) hHeld ?_;simp only [Act.put,zq1,zq2,zq3,zq4,zq5,zq6];refine tkp 13 (.bool true) hHeld ?_;simp only [Act.put,zq1,zq2,zq3,zq4,zq5,zq6];refine tkp 14 (.pointer (some ⟨g,0,none⟩)) hHeld ?_;simp only [Act.put,zq1,zq2,zq3,zq4,zq5,zq6];refine tkp 15 (.int .i64 (root:Int)) hHeld ?_;simp only [Act.put,zq1,zq2,zq3,zq4,zq5,zq6];refine tkg 17 (.agg (B D)) rfl (yieldsIf_load_mid rfl 39 (.tmp 16) rfl gd 0 rfl (B D).toList _ (fun w hS=>(HDV.out.grow hS).range) Tryz.underlying39 rfl HHD.out) hHeld ?_;simp only [Act.put,zq1,zq2,zq3,zq4,zq5,zq6];refine wpAnyH_ready (rs:=[16]) (by kernel_rfl) (by simp) ?_;refine AllReadyH.cons rfl (fun KQ hK=>?_) AllReadyH.nil;go_simp;refine (HDG.out _ _ _ _ List.mem_cons_self (HB.out.grow hHeld)).mono ?_;rintro e y2 ⟨rfl,a1⟩;refine hK.out _ _ (grow_trans hHeld a1) (fun hHeld=>?_);clear hK KQ;refine tkp 18 (.bool true) hHeld ?_;simp only [Act.put,zq1,zq2,zq3,zq4,zq5,zq6];refine tkp 19 (.bool true) hHeld ?_;simp only [Act.put,zq1,zq2,zq3,zq4,zq5,zq6];refine tkp 20 (.bool true) hHeld ?_;simp only [Act.put,zq1,zq2,zq3,zq4,zq5,zq6];refine wpAnyH_done (by kernel_rfl) ?_ _;have HE:=hidden (grow_trans HMQ.out.bel (grow_trans HB.out.low hHeld));clear hHeld
              go_wp2_with fail
              go_ret;exact ⟨rfl,HE.out⟩
          | false=>
            have HSH:Hid (n≤64∧ls.any tooL=false):=by
              have h1:=HBA.out;obtain ⟨h2,h3⟩:=Bool.or_eq_false_iff.1 h1.symm;exact ⟨by have:=of_decide_eq_false h2;omega,h3⟩
            have HTL:Hid (ls.any tooL=false):=HSH.out.2;have HSHORT:Hid ((lwL ls Gq).length≤64∧(lwL ls Gq).any tooL=false):=⟨by rw [lwL_len,← HN.out.1];exact HSH.out.1,by rw [HTE.out];exact HSH.out.2⟩;clear HBA HSH
            by_cases hfit:∀ks,Lat (lwL ls Gq) ks→o+258 * ks.length≤R
            · as_aux_lemma=>
                have HFIT:=hidden hfit;clear hfit
                go_wp2_with (first
                  |(go_at_call 13;refine (HB.out.apply _ (lwL ls Gq) HWQ.out HLA.out HSHORT.out.1 HSHORT.out.2 HFIT.out HFEW.out).mono ?_;rintro e x10 ⟨top,ks,o2,rfl,lat,hb10,hfr⟩;have HLAT:=hidden lat;have hkl:=lat.len;rw [lwL_len] at hkl;have hfk:=HFIT.out ks lat;have HFRS:=hidden hfr;replace HB:=hidden hb10;obtain ⟨kk,hkk⟩:∃kk,ks.length=kk:=⟨_,rfl⟩;have HKK:=hidden hkk;rw [hkk] at hkl hfk;obtain ⟨m2,hm2⟩:∃m2,m2=258 * kk:=⟨_,rfl⟩;obtain ⟨tt,htt⟩:∃tt,tt=o+m2:=⟨_,rfl⟩;have hnl:=HN.out;have hoo:=HO.out;have zt: ¬(R:Int)<(tt:Int):=(by omega);have hw1:=wrap_258 kk m2 (by omega) hm2;have hw2:=wrap_sum o m2 tt (by omega) htt;clear lat hfr hb10 hkl hfk hm2 htt hkk hnl hoo)
                  |(go_at_call 14;refine (HKW.out _ _ _ (grow_trans HMQ.out.bel HB.out.low) (HPP.out _ HB.out.now).2.2).mono ?_;rintro e x11 ⟨rfl,b11⟩;replace HB:=hidden (HB.out.grow b11);clear b11)
                  |(go_at_call 15;refine (HRO.out _ (grow_trans HMQ.out.bel HB.out.low)).mono ?_;rintro e x12 ⟨vq,rq,rfl,k1,k2,_,_,k5⟩;have hlq:=lat_len HLAT.out (lwL_nrm ls Gq) k2;obtain ⟨qa,qc,eq⟩:=lst_slice k1;subst eq;rw [hlq,HKK.out];replace HB:=hidden (HB.out.grow k5);clear k1 k2 k5 hlq)
                  |(go_at_call 16;clear hw1 hw2 zt;refine (HOV.out _ HB.out.low).mono ?_;rintro e x13 ⟨v2,rsm,rfl,l13,own13,rd13,few13,b13⟩;obtain ⟨V2,F,fl,hpf,hov,hfl,hfe⟩:=ov_pack HMQ.out HLAT.out (lwL_nrm ls Gq) HTL.out l13 own13 rd13 few13 HN.out;have HPF:=hidden hpf;have HOVF:=hidden hov;have HFL:=hidden hfl;obtain ⟨a2,c2,e2⟩:=prAt_slice hpf;rw [← hfe] at e2;have HFE:=hidden hfe;subst e2;replace HB:=hidden ((HB.out.grow b13).swap hov.perm);clear l13 own13 rd13 few13 b13 hpf hov hfl hfe)
                  |(go_at_call 17;refine (refRoot_any _ V2 F _ HPF.out (Nat.le_trans HFL.out (by omega))).mono ?_;rintro e x14 ⟨D2,E2,rfl,p14,b14⟩;obtain ⟨hD2,hE2⟩:=root_of4 (Nat.le_trans HFL.out (by omega)) HOVF.out.small (rise_ne HOVF.out.rise) p14;subst hE2;have HD2:=hidden hD2;have hl2:D2.length=32:=(by rw [hD2];exact rt_len (Nat.le_trans HFL.out (by omega)) HOVF.out.small (rise_ne HOVF.out.rise));have HHZ2:Hid ((Tryz.prog.info? 39).map (·.size)=some (B D2).size∧(B z32).size=(B D2).size):=⟨(by rw [B_size,hl2];exact size_hash),(by rw [B_size,B_size,hl2];rfl)⟩;have HHD2:Hid ((Tryz.prog.info? 39).map (·.size)=some (B D2).toList.length):=(by show _=_;rw [B_toList,List.length_map,hl2];exact size_hash);have hEq2:=hash_eq D2 D2 hl2 hl2;simp only [decide_true] at hEq2;replace HPF:=hidden (HPF.out.grow b14);replace HB:=hidden (HB.out.grow b14);clear p14 b14 hD2 hl2)
                  |((with_reducible refine at_ald 22 ?_);refine wpList_al _ rfl _ rfl _ zero_hash ?_;intro x15 gr hgr hlr BR q15;have HBR:=hidden BR;have HGR:=hidden hgr;have HQ15:=hidden q15;clear hgr hlr BR q15)
                  |((with_reducible refine at_st 22 ?_);refine wpList_sto _ rfl _ _ _ rfl gr _ (B D2) rfl rfl HBR.out HHZ2.out.1 HHZ2.out.2 (B_one _) ?_;intro wa BR2 r15;have HRV:=hidden BR2;have b15:=below_row HQ15.out r15 HGR.out;replace HPF:=hidden (HPF.out.grow b15);replace HB:=hidden (HB.out.grow b15);clear BR2 r15 b15 HBR HGR HQ15))
                have HDG2:Hid (∀w',Bq x1 w' g gs R ((top,F)::rs0) o2 PP→Kc 11 #[.pointer (some ⟨g,0,none⟩),.int .i64 (top:Int)] w' fun e w''=>e=.returned (.agg (B D2))∧Below w'.heap.size w' w''):=fun w' h=>by rw [HD2.out];exact h.dig List.mem_cons_self (HLD.out _ h.low)
                have HSZ2:Hid (∀w',Bq x1 w' g gs R ((top,F)::rs0) o2 PP→Kc 18 #[.pointer (some ⟨g,0,none⟩),.int .i64 (top:Int)] w' fun e w''=>e=.returned (.int .i64 (fl:Int))∧Below w'.heap.size w' w''):=fun w' h=>by rw [HFE.out];exact h.size List.mem_cons_self
                have HPV:=hidden (And.intro HPF.out HRV.out);refine wp_region_held_drew (S:=fun w'=>Kb wa w') (by kernel_rfl) (below_drewN (Below.refl _ _) 1) (fun hHeld=>?_);refine tkp 0 (.int .i64 0) hHeld ?_;simp only [Act.put,zq1,zq2,zq4,zq5,zq6];refine tkp 1 (.bool false) hHeld ?_;simp only [Act.put,zq1,zq2,zq3,zq4,zq5,zq6];refine tkp 2 (.bool false) hHeld ?_;simp only [Act.put,zq1,zq2,zq3,zq4,zq5,zq6];refine tkp 3 (.pointer (some ⟨g,0,none⟩)) hHeld ?_;simp only [Act.put,zq1,zq2,zq3,zq4,zq5,zq6];refine tkp 4 (.int .i64 (top:Int)) hHeld ?_;simp only [Act.put,zq1,zq2,zq3,zq4,zq5,zq6];refine tkg 6 (.agg (B D2)) rfl (yieldsIf_load_mid rfl 39 (.tmp 22) rfl gr 0 rfl (B D2).toList _ (fun w hS=>(HRV.out.grow hS).range) Tryz.underlying39 rfl HHD2.out) hHeld ?_;simp only [Act.put,zq1,zq2,zq3,zq4,zq5,zq6];refine wpAnyH_ready (rs:=[5]) (by kernel_rfl) (by simp) ?_;refine AllReadyH.cons rfl (fun KQ hK=>?_) AllReadyH.nil;go_simp;refine (HDG2.out _ (HB.out.grow hHeld)).mono ?_;rintro e y1 ⟨rfl,a1⟩;refine hK.out _ _ (grow_trans hHeld a1) (fun hHeld=>?_);clear hK KQ;refine tkp 7 (.bool false) hHeld ?_;simp only [Act.put,zq1,zq2,zq3,zq4,zq5,zq6];refine tkp 8 (.bool false) hHeld ?_;simp only [Act.put,zq1,zq2,zq3,zq4,zq5,zq6];refine tkp 9 (.bool false) hHeld ?_;simp only [Act.put,zq1,zq2,zq3,zq4,zq5,zq6];refine tkp 10 (.pointer (some ⟨g,0,none⟩)) hHeld ?_;simp only [Act.put,zq1,zq2,zq3,zq4,zq5,zq6];refine tkp 11 (.int .i64 (top:Int)) hHeld ?_;simp only [Act.put,zq1,zq2,zq3,zq4,zq5,zq6];refine tkp 13 (.slice a2 fl c2) hHeld ?_;simp only [Act.put,zq1,zq2,zq3,zq4,zq5,zq6];refine tkp 14 (.int .i64 (fl:Int)) hHeld ?_;simp only [Act.put,zq1,zq2,zq3,zq4,zq5,zq6];refine wpAnyH_ready (rs:=[12]) (by kernel_rfl) (by simp) ?_;refine AllReadyH.cons rfl (fun KQ hK=>?_) AllReadyH.nil;go_simp;refine (HSZ2.out _ (HB.out.grow hHeld)).mono ?_;rintro e y2 ⟨rfl,a1⟩;refine hK.out _ _ (grow_trans hHeld a1) (fun hHeld=>?_);clear hK KQ;refine tkp 15 (.bool false) hHeld ?_;simp only [Act.put,zq1,zq2,zq3,zq4,zq5,zq6];refine tkp 16 (.bool false) hHeld ?_;simp only [Act.put,zq1,zq2,zq3,zq4,zq5,zq6];refine tkp 17 (.bool false) hHeld ?_;simp only [Act.put,zq1,zq2,zq3,zq4,zq5,zq6];refine tkp 18 (.pointer (some ⟨g,0,none⟩)) hHeld ?_;simp only [Act.put,zq1,zq2,zq3,zq4,zq5,zq6];refine tkp 19 (.int .i64 (top:Int)) hHeld ?_;simp only [Act.put,zq1,zq2,zq3,zq4,zq5,zq6];refine wpAnyH_ready (rs:=[20]) (by kernel_rfl) (by simp) ?_;refine AllReadyH.cons rfl (fun KQ hK=>?_) AllReadyH.nil;go_simp;refine ((HB.out.grow hHeld).root List.mem_cons_self).mono ?_;rintro e y3 ⟨rfl,a1⟩;refine hK.out _ _ (grow_trans hHeld a1) (fun hHeld=>?_);clear hK KQ;refine tkp 21 (.bool false) hHeld ?_;simp only [Act.put,zq1,zq2,zq3,zq4,zq5,zq6];refine tkp 22 (.bool false) hHeld ?_;simp only [Act.put,zq1,zq2,zq3,zq4,zq5,zq6];refine wpAnyH_done (by kernel_rfl) ?_ _
                replace HPF:=hidden (HPF.out.grow hHeld)
                replace HB:=hidden (HB.out.grow hHeld)
                clear hHeld HDG2 HSZ2 HPV HRV;have HTR:Hid (∀w',PrAt w' (.slice a2 fl c2) V2 F→Kc 20 #[.slice a2 fl c2,.int .i64 0] w' (TrPost w' w' 256 0 F)):=fun w' h=>tree11_any 256 0 rfl w' _ V2 F (Below.refl _ _) (.inl fun z hz=>h.grow hz) (Nat.le_trans HFL.out (by omega)) ⟨rise_ne HOVF.out.rise,fun _ _ _ _ j hj=>(by omega),h.keys⟩
                go_wp2_with (first
                  |(go_at_call 20;refine (HTR.out _ HPF.out).mono ?_;rintro e wa ⟨vt,nt,rfl,t15,s15,b15⟩;obtain ⟨ta,tc,et⟩:=lst_slice t15.own;subst et;replace HB:=hidden (HB.out.grow b15);have hnt:nt.length=o2:=(by have h1:=congrArg List.length s15;rw [List.length_map,List.length_map] at h1;have h2:=HB.out;rw [HR0.out] at h2;rw [h1,h2.only]);rw [hnt];clear t15 s15 b15 hnt))
                obtain ⟨wn,hwn⟩:∃wn,wn=o2:=⟨_,rfl⟩;rw [← hwn] at HB ⊢;clear hwn;have HOC:Hid (Kr wa 10 #[.pointer (some ⟨g,0,none⟩)] (.int .i64 (wn:Int))):=fun w' hb=>(HB.out.grow hb).occ
                have HDV:=hidden (HPP.out _ HB.out.now).2.1
                by_cases ht0:top=0
                · have zt0:(top:Int)=0:=by omega
                  have zt1:((top:Int) == 0)=true:=by simpa using zt0
                  refine wp_region_held_drew (S:=fun w'=>Kb wa w') (by kernel_rfl) (below_drewN (Below.refl _ _) 1) (fun hHeld=>?_);refine tkp 0 (.pointer (some ⟨g,0,none⟩)) hHeld ?_;simp only [Act.put,zq1,zq2,zq4,zq5,zq6];refine tkp 2 (.int .i64 (wn:Int)) hHeld ?_;simp only [Act.put,zq1,zq2,zq3,zq4,zq5,zq6];refine wpAnyH_ready (rs:=[1]) (by kernel_rfl) (by simp) ?_;refine AllReadyH.cons rfl (fun KQ hK=>?_) AllReadyH.nil;go_simp;refine (HOC.out _ hHeld).mono ?_;rintro e y1 ⟨rfl,a1⟩;refine hK.out _ _ (grow_trans hHeld a1) (fun hHeld=>?_);clear hK KQ;refine tkp 3 (.bool true) hHeld ?_;simp only [Act.put,zq1,zq2,zq3,zq4,zq5,zq6];refine tkp 4 (.bool true) hHeld ?_;simp only [Act.put,zq1,zq2,zq3,zq4,zq5,zq6];refine tkp 5 (.bool false) hHeld ?_;simp only [Act.put,zq1,zq2,zq3,zq4,zq5,zq6];refine tkp 6 (.bool true) hHeld ?_;simp only [Act.put,zq1,zq2,zq3,zq4,zq5,zq6];refine tkp 7 (.bool true) hHeld ?_;simp only [Act.put,zq1,zq2,zq3,zq4,zq5,zq6];refine tks 8 hHeld ?_;simp only [Act.put,zq1,zq2,zq3,zq4,zq5,zq6];refine tks 9 hHeld ?_;simp only [Act.put,zq1,zq2,zq3,zq4,zq5,zq6];refine tks 10 hHeld ?_;simp only [Act.put,zq1,zq2,zq3,zq4,zq5,zq6];refine tks 11 hHeld ?_;simp only [Act.put,zq1,zq2,zq3,zq4,zq5,zq6];refine tks 12 hHeld ?_;simp only [Act.put,zq1,zq2,zq3,zq4,zq5,zq6];refine tkp 13 (.bool true) hHeld ?_;simp only [Act.put,zq1,zq2,zq3,zq4,zq5,zq6];refine tkp 14 (.bool true) hHeld ?_;simp only [Act.put,zq1,zq2,zq3,zq4,zq5,zq6];refine tkp 15 (.bool true) hHeld ?_;simp only [Act.put,zq1,zq2,zq3,zq4,zq5,zq6];refine tkp 16 (.int .i64 (top:Int)) hHeld ?_;simp only [Act.put,zq1,zq2,zq3,zq4,zq5,zq6];refine tkp 17 (.bool true) hHeld ?_;simp only [Act.put,zq1,zq2,zq3,zq4,zq5,zq6];refine tkp 18 (.bool true) hHeld ?_;simp only [Act.put,zq1,zq2,zq3,zq4,zq5,zq6];refine tks 19 hHeld ?_;simp only [Act.put,zq1,zq2,zq3,zq4,zq5,zq6];refine tks 20 hHeld ?_;simp only [Act.put,zq1,zq2,zq3,zq4,zq5,zq6];refine tks 21 hHeld ?_;simp only [Act.put,zq1,zq2,zq3,zq4,zq5,zq6];refine tks 22 hHeld ?_;simp only [Act.put,zq1,zq2,zq3,zq4,zq5,zq6];refine tkp 23 (.bool true) hHeld ?_;simp only [Act.put,zq1,zq2,zq3,zq4,zq5,zq6];refine tkp 24 (.bool true) hHeld ?_;simp only [Act.put,zq1,zq2,zq3,zq4,zq5,zq6];refine tkp 25 (.bool true) hHeld ?_;simp only [Act.put,zq1,zq2,zq3,zq4,zq5,zq6];refine wpAnyH_done (by kernel_rfl) ?_ _;have HE:=hidden (grow_trans HMQ.out.bel (grow_trans HB.out.low hHeld));clear hHeld
                  go_wp2_with fail
                  go_ret;exact ⟨rfl,HE.out⟩
                · have zt0: ¬(top:Int)=0:=by omega
                  have zt1:((top:Int) == 0)=false:=by simpa using zt0
                  have HT0:=hidden ht0;refine wp_region_held_drew (S:=fun w'=>Kb wa w') (by kernel_rfl) (below_drewN (Below.refl _ _) 1) (fun hHeld=>?_);refine tkp 0 (.pointer (some ⟨g,0,none⟩)) hHeld ?_;simp only [Act.put,zq1,zq2,zq4,zq5,zq6];refine tkp 2 (.int .i64 (wn:Int)) hHeld ?_;simp only [Act.put,zq1,zq2,zq3,zq4,zq5,zq6];refine wpAnyH_ready (rs:=[1]) (by kernel_rfl) (by simp) ?_;refine AllReadyH.cons rfl (fun KQ hK=>?_) AllReadyH.nil;go_simp;refine (HOC.out _ hHeld).mono ?_;rintro e y1 ⟨rfl,a1⟩;refine hK.out _ _ (grow_trans hHeld a1) (fun hHeld=>?_);clear hK KQ;refine tkp 3 (.bool true) hHeld ?_;simp only [Act.put,zq1,zq2,zq3,zq4,zq5,zq6];refine tkp 4 (.bool true) hHeld ?_;simp only [Act.put,zq1,zq2,zq3,zq4,zq5,zq6];refine tkp 5 (.bool false) hHeld ?_;simp only [Act.put,zq1,zq2,zq3,zq4,zq5,zq6];refine tkp 6 (.bool true) hHeld ?_;simp only [Act.put,zq1,zq2,zq3,zq4,zq5,zq6];refine tkp 7 (.bool true) hHeld ?_;simp only [Act.put,zq1,zq2,zq3,zq4,zq5,zq6];refine tks 8 hHeld ?_;simp only [Act.put,zq1,zq2,zq3,zq4,zq5,zq6];refine tks 9 hHeld ?_;simp only [Act.put,zq1,zq2,zq3,zq4,zq5,zq6];refine tks 10 hHeld ?_;simp only [Act.put,zq1,zq2,zq3,zq4,zq5,zq6];refine tks 11 hHeld ?_;simp only [Act.put,zq1,zq2,zq3,zq4,zq5,zq6];refine tks 12 hHeld ?_;simp only [Act.put,zq1,zq2,zq3,zq4,zq5,zq6];refine tkp 13 (.bool true) hHeld ?_;simp only [Act.put,zq1,zq2,zq3,zq4,zq5,zq6];refine tkp 14 (.bool true) hHeld ?_;simp only [Act.put,zq1,zq2,zq3,zq4,zq5,zq6];refine tkp 15 (.bool true) hHeld ?_;simp only [Act.put,zq1,zq2,zq3,zq4,zq5,zq6];refine tkp 16 (.int .i64 (top:Int)) hHeld ?_;simp only [Act.put,zq1,zq2,zq3,zq4,zq5,zq6];refine tkp 17 (.bool false) hHeld ?_;simp only [Act.put,zq1,zq2,zq3,zq4,zq5,zq6];refine tkp 18 (.bool false) hHeld ?_;simp only [Act.put,zq1,zq2,zq3,zq4,zq5,zq6];refine tkp 19 (.pointer (some ⟨g,0,none⟩)) hHeld ?_;simp only [Act.put,zq1,zq2,zq3,zq4,zq5,zq6];refine tkp 20 (.int .i64 (top:Int)) hHeld ?_;simp only [Act.put,zq1,zq2,zq3,zq4,zq5,zq6];refine wpAnyH_ready (rs:=[21]) (by kernel_rfl) (by simp) ?_;refine AllReadyH.cons rfl (fun KQ hK=>?_) AllReadyH.nil;go_simp;refine ((HB.out.grow hHeld).held List.mem_cons_self HT0.out).mono ?_;rintro e y3 ⟨⟨hn,hn0,rfl⟩,a1⟩;have hn1:(0:Int)<(hn:Int):=by omega
                  refine hK.out _ _ (grow_trans hHeld a1) (fun hHeld=>?_);clear hK KQ;refine tkp 22 (.bool true) hHeld ?_;simp only [Act.put,zq1,zq2,zq3,zq4,zq5,zq6];refine tkp 23 (.bool true) hHeld ?_;simp only [Act.put,zq1,zq2,zq3,zq4,zq5,zq6];refine tkp 24 (.bool true) hHeld ?_;simp only [Act.put,zq1,zq2,zq3,zq4,zq5,zq6];refine tkp 25 (.bool true) hHeld ?_;simp only [Act.put,zq1,zq2,zq3,zq4,zq5,zq6];refine wpAnyH_done (by kernel_rfl) ?_ _;have HE:=hidden (grow_trans HMQ.out.bel (grow_trans HB.out.low hHeld));clear hHeld
                  go_wp2_with fail
                  go_ret;exact ⟨rfl,HE.out⟩
            · as_aux_lemma=>
                have hex:∃ks,Lat (lwL ls Gq) ks∧R<o+258 * ks.length:=by
                  apply Classical.byContradiction;intro q;exact hfit fun ks h=>by
                    apply Classical.byContradiction;intro q2;exact q ⟨ks,h,by omega⟩
                have HFULL:=hidden hex;obtain ⟨ks,hlat,hfull⟩:=hex;have HLAT:=hidden hlat;have hkl:=hlat.len;rw [lwL_len] at hkl;obtain ⟨kk,hkk⟩:∃kk,ks.length=kk:=⟨_,rfl⟩;have HKK:=hidden hkk;rw [hkk] at hkl hfull;obtain ⟨m2,hm2⟩:∃m2,m2=258 * kk:=⟨_,rfl⟩;obtain ⟨tt,htt⟩:∃tt,tt=o+m2:=⟨_,rfl⟩;have zt:(R:Int)<(tt:Int):=by omega
                have hw1:=wrap_258 kk m2 (by have:=HN.out;omega) hm2;have hw2:=wrap_sum o m2 tt (by have:=HN.out;have:=HO.out;omega) htt;clear hlat hkl hfull hm2 htt hkk hfit HOV
                go_wp2_with (first
                  |(go_at_call 13;refine (HB.out.refused _ (lwL ls Gq) HWQ.out HLQ.out 9 (.inr ⟨HSHORT.out.1,HSHORT.out.2,HFULL.out,rfl⟩)).mono ?_;rintro e x10 ⟨rfl,hb10⟩;replace HB:=hidden hb10;clear hb10)
                  |(go_at_call 14;refine (HKW.out _ _ _ (grow_trans HMQ.out.bel HB.out.low) (HPP.out _ HB.out.now).2.2).mono ?_;rintro e x11 ⟨rfl,b11⟩;replace HB:=hidden (HB.out.grow b11);clear b11)
                  |(go_at_call 15;refine (HRO.out _ (grow_trans HMQ.out.bel HB.out.low)).mono ?_;rintro e wa ⟨vq,rq,rfl,k1,k2,_,_,k5⟩;have hlq:=lat_len HLAT.out (lwL_nrm ls Gq) k2;obtain ⟨qa,qc,eq⟩:=lst_slice k1;subst eq;rw [hlq,HKK.out];replace HB:=hidden (HB.out.grow k5);clear k1 k2 k5 hlq))
                have HDV:=hidden (HPP.out _ HB.out.now).2.1;refine wp_region_held_drew (S:=fun w'=>Kb wa w') (by kernel_rfl) (below_drewN (Below.refl _ _) 1) (fun hHeld=>?_);refine tkp 0 (.int .i64 9) hHeld ?_;simp only [Act.put,zq1,zq2,zq4,zq5,zq6];refine tkp 1 (.int .i64 9) hHeld ?_;simp only [Act.put,zq1,zq2,zq3,zq4,zq5,zq6];refine tkp 2 (.bool true) hHeld ?_;simp only [Act.put,zq1,zq2,zq3,zq4,zq5,zq6];refine tkp 3 (.bool true) hHeld ?_;simp only [Act.put,zq1,zq2,zq3,zq4,zq5,zq6];refine tkp 4 (.int .i64 0) hHeld ?_;simp only [Act.put,zq1,zq2,zq3,zq4,zq5,zq6];refine tkp 5 (.bool true) hHeld ?_;simp only [Act.put,zq1,zq2,zq3,zq4,zq5,zq6];refine tkp 6 (.bool true) hHeld ?_;simp only [Act.put,zq1,zq2,zq3,zq4,zq5,zq6];refine tkp 7 (.bool true) hHeld ?_;simp only [Act.put,zq1,zq2,zq3,zq4,zq5,zq6];refine tkp 8 (.pointer (some ⟨g,0,none⟩)) hHeld ?_;simp only [Act.put,zq1,zq2,zq3,zq4,zq5,zq6];refine tkp 10 (.int .i64 (o:Int)) hHeld ?_;simp only [Act.put,zq1,zq2,zq3,zq4,zq5,zq6];refine wpAnyH_ready (rs:=[9]) (by kernel_rfl) (by simp) ?_;refine AllReadyH.cons rfl (fun KQ hK=>?_) AllReadyH.nil;go_simp;refine (HB.out.grow hHeld).occ.mono ?_;rintro e y1 ⟨rfl,a1⟩;refine hK.out _ _ (grow_trans hHeld a1) (fun hHeld=>?_);clear hK KQ;refine tkp 11 (.bool true) hHeld ?_;simp only [Act.put,zq1,zq2,zq3,zq4,zq5,zq6];refine tkp 12 (.bool true) hHeld ?_;simp only [Act.put,zq1,zq2,zq3,zq4,zq5,zq6];refine tkp 13 (.bool true) hHeld ?_;simp only [Act.put,zq1,zq2,zq3,zq4,zq5,zq6];refine tkp 14 (.pointer (some ⟨g,0,none⟩)) hHeld ?_;simp only [Act.put,zq1,zq2,zq3,zq4,zq5,zq6];refine tkp 15 (.int .i64 (root:Int)) hHeld ?_;simp only [Act.put,zq1,zq2,zq3,zq4,zq5,zq6];refine tkg 17 (.agg (B D)) rfl (yieldsIf_load_mid rfl 39 (.tmp 16) rfl gd 0 rfl (B D).toList _ (fun w hS=>(HDV.out.grow hS).range) Tryz.underlying39 rfl HHD.out) hHeld ?_;simp only [Act.put,zq1,zq2,zq3,zq4,zq5,zq6];refine wpAnyH_ready (rs:=[16]) (by kernel_rfl) (by simp) ?_;refine AllReadyH.cons rfl (fun KQ hK=>?_) AllReadyH.nil;go_simp;refine (HDG.out _ _ _ _ List.mem_cons_self (HB.out.grow hHeld)).mono ?_;rintro e y2 ⟨rfl,a1⟩;refine hK.out _ _ (grow_trans hHeld a1) (fun hHeld=>?_);clear hK KQ;refine tkp 18 (.bool true) hHeld ?_;simp only [Act.put,zq1,zq2,zq3,zq4,zq5,zq6];refine tkp 19 (.bool true) hHeld ?_;simp only [Act.put,zq1,zq2,zq3,zq4,zq5,zq6];refine tkp 20 (.bool true) hHeld ?_;simp only [Act.put,zq1,zq2,zq3,zq4,zq5,zq6];refine wpAnyH_done (by kernel_rfl) ?_ _;have HE:=hidden (grow_trans HMQ.out.bel (grow_trans HB.out.low hHeld));clear hHeld
                go_wp2_with fail
                go_ret;exact ⟨rfl,HE.out⟩
  · rcases hbt with ⟨hbt,h0⟩ | ⟨hbt,h0⟩
    all_goals (subst hbt)
    all_goals (first
      |(have z00:(root:Int)=0:=by omega
        have z01:((root:Int) == 0)=true:=by simpa using z00
        replace HB:=hidden (HB.out.again List.mem_cons_self h0)
        go_upto_region 12 with fail
        clear z00 z01 h0)
      |(have z00: ¬(root:Int)=0:=by omega
        have z01:((root:Int) == 0)=false:=by simpa using z00
        go_upto_region 12 with (go_at_call 9;refine (HB.out.hold List.mem_cons_self h0 (by simp)).mono ?_;rintro e x4 ⟨rfl,hb4⟩;replace HB:=hidden hb4;clear hb4)
        clear z00 z01 h0))
    all_goals (obtain ⟨rs0,hrs0⟩:∃rs0,rs0=[(root,E)]:=⟨_,rfl⟩)
    all_goals
      rw [← hrs0] at HB;have HIN:Hid (root∈rs0.map (·.1)∧(root,E)∈rs0):=by rw [hrs0];exact ⟨by simp,by simp⟩
      have HFEW:Hid (rs0.length≤1000):=by show _≤_;rw [hrs0];simp
      clear hrs0;obtain ⟨b0,hb0⟩:∃b0,decide ((64:Int)<(n:Int))=b0:=⟨_,rfl⟩;have HB64:Hid (b0=decide (64<n)):=by show _=_;rw [← hb0];exact decide_eq_decide.2 (by omega)
      go_wp2_with fail
      go_loopw [13,14] (fun lv iv wr=>∃(k:Nat) (b:Bool),k≤n∧lv=.bool b∧iv=.int .i64 (k:Int)∧Hid (b=(b0 || (ls.take k).any tooL))∧Hid (Bq x1 wr g gs R ((root,E)::rs0) o P)) (fun _ iv _=>n-(intOf iv).toNat)
      case atStart=>exact ⟨0,b0,by omega,by first | rfl | rw [hb0],rfl,by show _=_;simp,HB.out⟩
      case round=>
        clear HB hb0;obtain ⟨k,b,hk,rfl,rfl,hbl,HB⟩:=hrel
        by_cases hlt:k<n
        · as_aux_lemma=>
            have hkl:k<ls.length:=by have:=HN.out.1;omega
            obtain ⟨gw,ow,rfl,hcell⟩:=HWS.out (by omega);obtain ⟨c1g,c2v⟩:=hcell k hlt wr (grow_trans HMQ.out.bel HB.out.low);obtain ⟨va,vc,hv⟩:=HWV.out k hlt;rw [hv] at c2v;obtain ⟨gx,hgx⟩:∃gx,gx=ls[k]!.g:=⟨_,rfl⟩;obtain ⟨vl,hvl⟩:∃vl,vl=ls[k]!.b.length:=⟨_,rfl⟩;have hto:tooL ls[k]! =(!gx && decide (1024<vl)):=by rw [hgx,hvl];rfl
            rw [← hgx] at c1g;rw [← hvl] at c2v;have z1:(k:Int)<(n:Int):=by omega
            have z0:(0:Int)≤(k:Int):=by omega
            have HNX:Hid ((b0 || (ls.take (k+1)).any tooL)=(b || (!gx && decide (1024<vl)))):=by
              show _=_;rw [any_take2 ls k hkl,hto,hbl.out,Bool.or_assoc]
            clear hcell hv hgx hvl hto hbl hkl HWS HWV HWR HLW HKW HRO;cases b with
            | true=>
              have HN2:Hid (true=(b0 || (ls.take (k+1)).any tooL)):=by show _=_;rw [HNX.out];rfl
              clear HNX
              go_wp2_with fail
              exact ⟨⟨k+1,true,by omega,rfl,by go_num,HN2.out,HB.out⟩,by simp [intOf];omega⟩
            | false=>
              cases gx with
              | true=>
                have HN2:Hid (false=(b0 || (ls.take (k+1)).any tooL)):=by show _=_;rw [HNX.out];rfl
                clear HNX
                go_wp2_with fail
                exact ⟨⟨k+1,false,by omega,rfl,by go_num,HN2.out,HB.out⟩,by simp [intOf];omega⟩
              | false=>
                by_cases h1:1024<vl
                · have y1:(1024:Int)<(vl:Int):=by omega
                  have HN2:Hid (true=(b0 || (ls.take (k+1)).any tooL)):=by show _=_;rw [HNX.out,decide_eq_true h1];rfl
                  clear HNX
                  go_wp2_with fail
                  exact ⟨⟨k+1,true,by omega,rfl,by go_num,HN2.out,HB.out⟩,by simp [intOf];omega⟩
                · have y1: ¬(1024:Int)<(vl:Int):=by omega
                  have HN2:Hid (false=(b0 || (ls.take (k+1)).any tooL)):=by show _=_;rw [HNX.out,decide_eq_false h1];rfl
                  clear HNX
                  go_wp2_with fail
                  exact ⟨⟨k+1,false,by omega,rfl,by go_num,HN2.out,HB.out⟩,by simp [intOf];omega⟩
        · as_aux_lemma=>
            have z1: ¬(k:Int)<(n:Int):=by omega
            have hkn:k=n:=by omega
            have HBA:Hid (b=(decide (64<n) || ls.any tooL)):=by
              show _=_;rw [hbl.out,← HB64.out,List.take_of_length_le (by rw [← HN.out.1];omega)]
            clear hbl hk hlt hkn HWS HWV HB64
            go_wp2_with (first
              |(go_at_call 10;refine HB.out.occ.mono ?_;rintro e x5 ⟨rfl,b5⟩;replace HB:=hidden (HB.out.grow b5);clear b5)
              |(go_at_call 11;refine (HDG.out _ _ _ _ List.mem_cons_self HB.out).mono ?_;rintro e x6 ⟨rfl,b6⟩;replace HB:=hidden (HB.out.grow b6);clear b6)
              |((with_reducible refine at_ald 16 ?_);refine wpList_al _ rfl _ rfl _ zero_hash ?_;intro x7 gd hgd hld BD q7;have HBD:=hidden BD;have HGD:=hidden hgd;have HQ7:=hidden q7;clear hgd hld BD q7)
              |((with_reducible refine at_st 16 ?_);refine wpList_sto _ rfl _ _ _ rfl gd _ (B D) rfl rfl HBD.out HHZ.out.1 HHZ.out.2 (B_one _) ?_;intro x8 BD2 r8;have b8:=below_row HQ7.out r8 HGD.out;obtain ⟨P1,hP1,hb8⟩:=bq_var HB.out b8 BD2 HGD.out;replace HB:=hidden hb8;have HP1:=hidden hP1;clear BD2 r8 b8 hP1 hb8 HBD HGD HQ7)
              |(go_at_call 12;refine (HLW.out _ (grow_trans HMQ.out.bel HB.out.low)).mono ?_;rintro e x9 ⟨gq,Gq,rfl,q1,q2,q3,q4,b9⟩;rw [← HN.out.1] at q2 q4 ⊢;obtain ⟨PP,hPP,hb9⟩:=bq_lent HB.out b9 q4 q1 q2;replace HB:=hidden hb9;have HPP:Hid (∀z,PP z→Kb x1 z∧Blk z gd 39 (B D)∧LentWr z gq n Gq ls):=fun z h=>⟨HP0.out z (HP1.out z (hPP z h).1).1,(HP1.out z (hPP z h).1).2,(hPP z h).2⟩;clear q1 q2 q3 q4 b9 hPP hb9 HP1))
            have HWQ:Hid (∀z,PP z→WrAt z (.slice (some ⟨gq,0,none⟩) n (n+2)) (lwL ls Gq)):=fun z hz=>by
              have h1:=(HPP.out z hz).2.2;rw [HN.out.1] at h1 ⊢;exact h1.wrAt HWR.out.ok
            have HLQ:Hid ((lwL ls Gq).length≤65536):=by show _≤_;rw [lwL_len,← HN.out.1];exact Nat.le_trans HN.out.2 (by omega)
            have HLA:Hid (∀z,PP z→Laid z):=fun z hz=>HLD.out z (HPP.out z hz).1
            have HTE:Hid ((lwL ls Gq).any tooL=ls.any tooL):=any_tooL (lwL_nrm ls Gq);cases b with
            | true=>
              as_aux_lemma=>
                have HLONG:Hid (64<(lwL ls Gq).length∨(lwL ls Gq).any tooL=true):=by
                  show _∨_;rw [lwL_len,HTE.out,← HN.out.1];have h1:=HBA.out;rcases Bool.or_eq_true_iff.1 h1.symm with h | h
                  · exact .inl (of_decide_eq_true h)
                  · exact .inr h
                clear HBA HOV
                go_wp2_with (first
                  |(go_at_call 13;refine (HB.out.refused _ (lwL ls Gq) HWQ.out HLQ.out 4 (.inl ⟨HLONG.out,rfl⟩)).mono ?_;rintro e x10 ⟨rfl,hb10⟩;replace HB:=hidden hb10;clear hb10)
                  |(go_at_call 14;refine (HKW.out _ _ _ (grow_trans HMQ.out.bel HB.out.low) (HPP.out _ HB.out.now).2.2).mono ?_;rintro e wa ⟨rfl,b11⟩;replace HB:=hidden (HB.out.grow b11);clear b11))
                have HDV:=hidden (HPP.out _ HB.out.now).2.1;refine wp_region_held_drew (S:=fun w'=>Kb wa w') (by kernel_rfl) (below_drewN (Below.refl _ _) 1) (fun hHeld=>?_);refine tkp 0 (.int .i64 4) hHeld ?_;simp only [Act.put,zq1,zq2,zq4,zq5,zq6];refine tkp 1 (.int .i64 4) hHeld ?_;simp only [Act.put,zq1,zq2,zq3,zq4,zq5,zq6];refine tkp 2 (.bool true) hHeld ?_;simp only [Act.put,zq1,zq2,zq3,zq4,zq5,zq6];refine tkp 3 (.bool true) hHeld ?_;simp only [Act.put,zq1,zq2,zq3,zq4,zq5,zq6];refine tkp 4 (.int .i64 0) hHeld ?_;simp only [Act.put,zq1,zq2,zq3,zq4,zq5,zq6];refine tkp 5 (.bool true) hHeld ?_;simp only [Act.put,zq1,zq2,zq3,zq4,zq5,zq6];refine tkp 6 (.bool true) hHeld ?_;simp only [Act.put,zq1,zq2,zq3,zq4,zq5,zq6];refine tkp 7 (.bool true) hHeld ?_;simp only [Act.put,zq1,zq2,zq3,zq4,zq5,zq6];refine tkp 8 (.pointer (some ⟨g,0,none⟩)) hHeld ?_;simp only [Act.put,zq1,zq2,zq3,zq4,zq5,zq6];refine tkp 10 (.int .i64 (o:Int)) hHeld ?_;simp only [Act.put,zq1,zq2,zq3,zq4,zq5,zq6];refine wpAnyH_ready (rs:=[9]) (by kernel_rfl) (by simp) ?_;refine AllReadyH.cons rfl (fun KQ hK=>?_) AllReadyH.nil;go_simp;refine (HB.out.grow hHeld).occ.mono ?_;rintro e y1 ⟨rfl,a1⟩;refine hK.out _ _ (grow_trans hHeld a1) (fun hHeld=>?_);clear hK KQ;refine tkp 11 (.bool true) hHeld ?_;simp only [Act.put,zq1,zq2,zq3,zq4,zq5,zq6];refine tkp 12 (.bool true) hHeld ?_;simp only [Act.put,zq1,zq2,zq3,zq4,zq5,zq6];refine tkp 13 (.bool true) hHeld ?_;simp only [Act.put,zq1,zq2,zq3,zq4,zq5,zq6];refine tkp 14 (.pointer (some ⟨g,0,none⟩)) hHeld ?_;simp only [Act.put,zq1,zq2,zq3,zq4,zq5,zq6];refine tkp 15 (.int .i64 (root:Int)) hHeld ?_;simp only [Act.put,zq1,zq2,zq3,zq4,zq5,zq6];refine tkg 17 (.agg (B D)) rfl (yieldsIf_load_mid rfl 39 (.tmp 16) rfl gd 0 rfl (B D).toList _ (fun w hS=>(HDV.out.grow hS).range) Tryz.underlying39 rfl HHD.out) hHeld ?_;simp only [Act.put,zq1,zq2,zq3,zq4,zq5,zq6];refine wpAnyH_ready (rs:=[16]) (by kernel_rfl) (by simp) ?_;refine AllReadyH.cons rfl (fun KQ hK=>?_) AllReadyH.nil;go_simp;refine (HDG.out _ _ _ _ List.mem_cons_self (HB.out.grow hHeld)).mono ?_;rintro e y2 ⟨rfl,a1⟩;refine hK.out _ _ (grow_trans hHeld a1) (fun hHeld=>?_);clear hK KQ;refine tkp 18 (.bool true) hHeld ?_;simp only [Act.put,zq1,zq2,zq3,zq4,zq5,zq6];refine tkp 19 (.bool true) hHeld ?_;simp only [Act.put,zq1,zq2,zq3,zq4,zq5,zq6];refine tkp 20 (.bool true) hHeld ?_;simp only [Act.put,zq1,zq2,zq3,zq4,zq5,zq6];refine wpAnyH_done (by kernel_rfl) ?_ _;have HE:=hidden (grow_trans HMQ.out.bel (grow_trans HB.out.low hHeld));clear hHeld
                go_wp2_with fail
                go_ret;exact ⟨rfl,HE.out⟩
            | false=>
              have HSH:Hid (n≤64∧ls.any tooL=false):=by
                have h1:=HBA.out;obtain ⟨h2,h3⟩:=Bool.or_eq_false_iff.1 h1.symm;exact ⟨by have:=of_decide_eq_false h2;omega,h3⟩
              have HTL:Hid (ls.any tooL=false):=HSH.out.2;have HSHORT:Hid ((lwL ls Gq).length≤64∧(lwL ls Gq).any tooL=false):=⟨by rw [lwL_len,← HN.out.1];exact HSH.out.1,by rw [HTE.out];exact HSH.out.2⟩;clear HBA HSH
              by_cases hfit:∀ks,Lat (lwL ls Gq) ks→o+258 * ks.length≤R
              · as_aux_lemma=>
                  have HFIT:=hidden hfit;clear hfit
                  go_wp2_with (first
                    |(go_at_call 13;refine (HB.out.apply _ (lwL ls Gq) HWQ.out HLA.out HSHORT.out.1 HSHORT.out.2 HFIT.out HFEW.out).mono ?_;rintro e x10 ⟨top,ks,o2,rfl,lat,hb10,hfr⟩;have HLAT:=hidden lat;have hkl:=lat.len;rw [lwL_len] at hkl;have hfk:=HFIT.out ks lat;have HFRS:=hidden hfr;replace HB:=hidden hb10;obtain ⟨kk,hkk⟩:∃kk,ks.length=kk:=⟨_,rfl⟩;have HKK:=hidden hkk;rw [hkk] at hkl hfk;obtain ⟨m2,hm2⟩:∃m2,m2=258 * kk:=⟨_,rfl⟩;obtain ⟨tt,htt⟩:∃tt,tt=o+m2:=⟨_,rfl⟩;have hnl:=HN.out;have hoo:=HO.out;have zt: ¬(R:Int)<(tt:Int):=(by omega);have hw1:=wrap_258 kk m2 (by omega) hm2;have hw2:=wrap_sum o m2 tt (by omega) htt;clear lat hfr hb10 hkl hfk hm2 htt hkk hnl hoo)
                    |(go_at_call 14;refine (HKW.out _ _ _ (grow_trans HMQ.out.bel HB.out.low) (HPP.out _ HB.out.now).2.2).mono ?_;rintro e x11 ⟨rfl,b11⟩;replace HB:=hidden (HB.out.grow b11);clear b11)
                    |(go_at_call 15;refine (HRO.out _ (grow_trans HMQ.out.bel HB.out.low)).mono ?_;rintro e x12 ⟨vq,rq,rfl,k1,k2,_,_,k5⟩;have hlq:=lat_len HLAT.out (lwL_nrm ls Gq) k2;obtain ⟨qa,qc,eq⟩:=lst_slice k1;subst eq;rw [hlq,HKK.out];replace HB:=hidden (HB.out.grow k5);clear k1 k2 k5 hlq)
                    |(go_at_call 16;clear hw1 hw2 zt;refine (HOV.out _ HB.out.low).mono ?_;rintro e x13 ⟨v2,rsm,rfl,l13,own13,rd13,few13,b13⟩;obtain ⟨V2,F,fl,hpf,hov,hfl,hfe⟩:=ov_pack HMQ.out HLAT.out (lwL_nrm ls Gq) HTL.out l13 own13 rd13 few13 HN.out;have HPF:=hidden hpf;have HOVF:=hidden hov;have HFL:=hidden hfl;obtain ⟨a2,c2,e2⟩:=prAt_slice hpf;rw [← hfe] at e2;have HFE:=hidden hfe;subst e2;replace HB:=hidden ((HB.out.grow b13).swap hov.perm);clear l13 own13 rd13 few13 b13 hpf hov hfl hfe)
                    |(go_at_call 17;refine (refRoot_any _ V2 F _ HPF.out (Nat.le_trans HFL.out (by omega))).mono ?_;rintro e x14 ⟨D2,E2,rfl,p14,b14⟩;obtain ⟨hD2,hE2⟩:=root_of4 (Nat.le_trans HFL.out (by omega)) HOVF.out.small (rise_ne HOVF.out.rise) p14;subst hE2;have HD2:=hidden hD2;have hl2:D2.length=32:=(by rw [hD2];exact rt_len (Nat.le_trans HFL.out (by omega)) HOVF.out.small (rise_ne HOVF.out.rise));have HHZ2:Hid ((Tryz.prog.info? 39).map (·.size)=some (B D2).size∧(B z32).size=(B D2).size):=⟨(by rw [B_size,hl2];exact size_hash),(by rw [B_size,B_size,hl2];rfl)⟩;have HHD2:Hid ((Tryz.prog.info? 39).map (·.size)=some (B D2).toList.length):=(by show _=_;rw [B_toList,List.length_map,hl2];exact size_hash);have hEq2:=hash_eq D2 D2 hl2 hl2;simp only [decide_true] at hEq2;replace HPF:=hidden (HPF.out.grow b14);replace HB:=hidden (HB.out.grow b14);clear p14 b14 hD2 hl2)
                    |((with_reducible refine at_ald 22 ?_);refine wpList_al _ rfl _ rfl _ zero_hash ?_;intro x15 gr hgr hlr BR q15;have HBR:=hidden BR;have HGR:=hidden hgr;have HQ15:=hidden q15;clear hgr hlr BR q15)
                    |((with_reducible refine at_st 22 ?_);refine wpList_sto _ rfl _ _ _ rfl gr _ (B D2) rfl rfl HBR.out HHZ2.out.1 HHZ2.out.2 (B_one _) ?_;intro wa BR2 r15;have HRV:=hidden BR2;have b15:=below_row HQ15.out r15 HGR.out;replace HPF:=hidden (HPF.out.grow b15);replace HB:=hidden (HB.out.grow b15);clear BR2 r15 b15 HBR HGR HQ15))
                  have HDG2:Hid (∀w',Bq x1 w' g gs R ((top,F)::rs0) o2 PP→Kc 11 #[.pointer (some ⟨g,0,none⟩),.int .i64 (top:Int)] w' fun e w''=>e=.returned (.agg (B D2))∧Below w'.heap.size w' w''):=fun w' h=>by rw [HD2.out];exact h.dig List.mem_cons_self (HLD.out _ h.low)
                  have HSZ2:Hid (∀w',Bq x1 w' g gs R ((top,F)::rs0) o2 PP→Kc 18 #[.pointer (some ⟨g,0,none⟩),.int .i64 (top:Int)] w' fun e w''=>e=.returned (.int .i64 (fl:Int))∧Below w'.heap.size w' w''):=fun w' h=>by rw [HFE.out];exact h.size List.mem_cons_self
                  have HPV:=hidden (And.intro HPF.out HRV.out);refine wp_region_held_drew (S:=fun w'=>Kb wa w') (by kernel_rfl) (below_drewN (Below.refl _ _) 1) (fun hHeld=>?_);refine tkp 0 (.int .i64 0) hHeld ?_;simp only [Act.put,zq1,zq2,zq4,zq5,zq6];refine tkp 1 (.bool false) hHeld ?_;simp only [Act.put,zq1,zq2,zq3,zq4,zq5,zq6];refine tkp 2 (.bool false) hHeld ?_;simp only [Act.put,zq1,zq2,zq3,zq4,zq5,zq6];refine tkp 3 (.pointer (some ⟨g,0,none⟩)) hHeld ?_;simp only [Act.put,zq1,zq2,zq3,zq4,zq5,zq6];refine tkp 4 (.int .i64 (top:Int)) hHeld ?_;simp only [Act.put,zq1,zq2,zq3,zq4,zq5,zq6];refine tkg 6 (.agg (B D2)) rfl (yieldsIf_load_mid rfl 39 (.tmp 22) rfl gr 0 rfl (B D2).toList _ (fun w hS=>(HRV.out.grow hS).range) Tryz.underlying39 rfl HHD2.out) hHeld ?_;simp only [Act.put,zq1,zq2,zq3,zq4,zq5,zq6];refine wpAnyH_ready (rs:=[5]) (by kernel_rfl) (by simp) ?_;refine AllReadyH.cons rfl (fun KQ hK=>?_) AllReadyH.nil;go_simp;refine (HDG2.out _ (HB.out.grow hHeld)).mono ?_;rintro e y1 ⟨rfl,a1⟩;refine hK.out _ _ (grow_trans hHeld a1) (fun hHeld=>?_);clear hK KQ;refine tkp 7 (.bool false) hHeld ?_;simp only [Act.put,zq1,zq2,zq3,zq4,zq5,zq6];refine tkp 8 (.bool false) hHeld ?_;simp only [Act.put,zq1,zq2,zq3,zq4,zq5,zq6];refine tkp 9 (.bool false) hHeld ?_;simp only [Act.put,zq1,zq2,zq3,zq4,zq5,zq6];refine tkp 10 (.pointer (some ⟨g,0,none⟩)) hHeld ?_;simp only [Act.put,zq1,zq2,zq3,zq4,zq5,zq6];refine tkp 11 (.int .i64 (top:Int)) hHeld ?_;simp only [Act.put,zq1,zq2,zq3,zq4,zq5,zq6];refine tkp 13 (.slice a2 fl c2) hHeld ?_;simp only [Act.put,zq1,zq2,zq3,zq4,zq5,zq6];refine tkp 14 (.int .i64 (fl:Int)) hHeld ?_;simp only [Act.put,zq1,zq2,zq3,zq4,zq5,zq6];refine wpAnyH_ready (rs:=[12]) (by kernel_rfl) (by simp) ?_;refine AllReadyH.cons rfl (fun KQ hK=>?_) AllReadyH.nil;go_simp;refine (HSZ2.out _ (HB.out.grow hHeld)).mono ?_;rintro e y2 ⟨rfl,a1⟩;refine hK.out _ _ (grow_trans hHeld a1) (fun hHeld=>?_);clear hK KQ;refine tkp 15 (.bool false) hHeld ?_;simp only [Act.put,zq1,zq2,zq3,zq4,zq5,zq6];refine tkp 16 (.bool false) hHeld ?_;simp only [Act.put,zq1,zq2,zq3,zq4,zq5,zq6];refine tkp 17 (.bool false) hHeld ?_;simp only [Act.put,zq1,zq2,zq3,zq4,zq5,zq6];refine tkp 18 (.pointer (some ⟨g,0,none⟩)) hHeld ?_;simp only [Act.put,zq1,zq2,zq3,zq4,zq5,zq6];refine tkp 19 (.int .i64 (top:Int)) hHeld ?_;simp only [Act.put,zq1,zq2,zq3,zq4,zq5,zq6];refine wpAnyH_ready (rs:=[20]) (by kernel_rfl) (by simp) ?_;refine AllReadyH.cons rfl (fun KQ hK=>?_) AllReadyH.nil;go_simp;refine ((HB.out.grow hHeld).root List.mem_cons_self).mono ?_;rintro e y3 ⟨rfl,a1⟩;refine hK.out _ _ (grow_trans hHeld a1) (fun hHeld=>?_);clear hK KQ;refine tkp 21 (.bool false) hHeld ?_;simp only [Act.put,zq1,zq2,zq3,zq4,zq5,zq6];refine tkp 22 (.bool false) hHeld ?_;simp only [Act.put,zq1,zq2,zq3,zq4,zq5,zq6];refine wpAnyH_done (by kernel_rfl) ?_ _
                  replace HPF:=hidden (HPF.out.grow hHeld)
                  replace HB:=hidden (HB.out.grow hHeld)
                  clear hHeld HDG2 HSZ2 HPV HRV;have HTR:Hid (∀w',PrAt w' (.slice a2 fl c2) V2 F→Kc 20 #[.slice a2 fl c2,.int .i64 0] w' (TrPost w' w' 256 0 F)):=fun w' h=>tree11_any 256 0 rfl w' _ V2 F (Below.refl _ _) (.inl fun z hz=>h.grow hz) (Nat.le_trans HFL.out (by omega)) ⟨rise_ne HOVF.out.rise,fun _ _ _ _ j hj=>(by omega),h.keys⟩
                  have HFH:Hid (∀w',Kb x1 w'→PrAt w' (.slice a2 fl c2) V2 F→Kc 21 #[.slice ea1 el ec1,.slice a2 fl c2] w' fun e w''=>e=.returned (.int .i64 (frC ((trN 256 0 E).map dpE) ((trN 256 0 F).map dpE):Int))∧Below w'.heap.size w' w''):=fun w' hb h=>fresh11_any _ _ V1 V2 E F w' (fun z hz=>HMQ.out.pr.grow (grow_trans hb hz)) (fun z hz=>h.grow hz) (Nat.le_trans HMQ.out.len (by omega)) (Nat.le_trans HFL.out (by omega)) HMQ.out.tpre ⟨rise_ne HOVF.out.rise,fun _ _ _ _ j hj=>(by omega),h.keys⟩
                  have hfc:=HFRS.out (.inr HIN.out.1) HMQ.out.rise F HOVF.out.rise HOVF.out.perm;obtain ⟨fc,hfc2⟩:∃fc,fc=frC ((trN 256 0 E).map dpE) ((trN 256 0 F).map dpE):=⟨_,rfl⟩;rw [← hfc2] at HFH hfc;have hfcb:fc≤30000:=by
                    rw [hfc2];refine Nat.le_trans (frC_le _ _) ?_;rw [List.length_map];have h1:=trN_len_le 256 0 F;have h2:=HFL.out;have h3:F.length * (256+1)≤80 * 257:=Nat.mul_le_mul_right _ h2;omega
                  obtain ⟨wn,hwn⟩:∃wn,wn=o+fc:=⟨_,rfl⟩;have hwo:=wrap_sum o fc wn (by have:=HO.out;omega) hwn;rw [← hwn] at hfc
                  replace hfc:=hfc.symm
                  subst hfc;clear hfc2 hfcb hwn
                  go_wp2_with (first
                    |(go_at_call 20;refine (HTR.out _ HPF.out).mono ?_;rintro e x15 ⟨vt,nt,rfl,t15,s15,b15⟩;obtain ⟨ta,tc,et⟩:=lst_slice t15.own;subst et;replace HPF:=hidden (HPF.out.grow b15);replace HB:=hidden (HB.out.grow b15);clear t15 s15 b15)
                    |(go_at_call 21;refine (HFH.out _ HB.out.low HPF.out).mono ?_;rintro e wa ⟨rfl,b16⟩;replace HPF:=hidden (HPF.out.grow b16);replace HB:=hidden (HB.out.grow b16);clear b16))
                  have HOC:Hid (Kr wa 10 #[.pointer (some ⟨g,0,none⟩)] (.int .i64 (wn:Int))):=fun w' hb=>(HB.out.grow hb).occ
                  have HDV:=hidden (HPP.out _ HB.out.now).2.1
                  by_cases ht0:top=0
                  · have zt0:(top:Int)=0:=by omega
                    have zt1:((top:Int) == 0)=true:=by simpa using zt0
                    refine wp_region_held_drew (S:=fun w'=>Kb wa w') (by kernel_rfl) (below_drewN (Below.refl _ _) 1) (fun hHeld=>?_);refine tkp 0 (.pointer (some ⟨g,0,none⟩)) hHeld ?_;simp only [Act.put,zq1,zq2,zq4,zq5,zq6];refine tkp 2 (.int .i64 (wn:Int)) hHeld ?_;simp only [Act.put,zq1,zq2,zq3,zq4,zq5,zq6];refine wpAnyH_ready (rs:=[1]) (by kernel_rfl) (by simp) ?_;refine AllReadyH.cons rfl (fun KQ hK=>?_) AllReadyH.nil;go_simp;refine (HOC.out _ hHeld).mono ?_;rintro e y1 ⟨rfl,a1⟩;refine hK.out _ _ (grow_trans hHeld a1) (fun hHeld=>?_);clear hK KQ;refine tkp 3 (.bool true) hHeld ?_;simp only [Act.put,zq1,zq2,zq3,zq4,zq5,zq6];refine tkp 4 (.bool true) hHeld ?_;simp only [Act.put,zq1,zq2,zq3,zq4,zq5,zq6];refine tkp 5 (.bool true) hHeld ?_;simp only [Act.put,zq1,zq2,zq3,zq4,zq5,zq6];refine tkp 6 (.bool false) hHeld ?_;simp only [Act.put,zq1,zq2,zq3,zq4,zq5,zq6];refine tkp 7 (.bool false) hHeld ?_;simp only [Act.put,zq1,zq2,zq3,zq4,zq5,zq6];refine tkp 8 (.pointer (some ⟨g,0,none⟩)) hHeld ?_;simp only [Act.put,zq1,zq2,zq3,zq4,zq5,zq6];refine tkp 9 (.int .i64 (root:Int)) hHeld ?_;simp only [Act.put,zq1,zq2,zq3,zq4,zq5,zq6];refine tkg 11 (.agg (B D)) rfl (yieldsIf_load_mid rfl 39 (.tmp 16) rfl gd 0 rfl (B D).toList _ (fun w hS=>(HDV.out.grow hS).range) Tryz.underlying39 rfl HHD.out) hHeld ?_;simp only [Act.put,zq1,zq2,zq3,zq4,zq5,zq6];refine wpAnyH_ready (rs:=[10]) (by kernel_rfl) (by simp) ?_;refine AllReadyH.cons rfl (fun KQ hK=>?_) AllReadyH.nil;go_simp;refine (HDG.out _ _ _ _ (List.mem_cons_of_mem _ HIN.out.2) (HB.out.grow hHeld)).mono ?_;rintro e y2 ⟨rfl,a1⟩;refine hK.out _ _ (grow_trans hHeld a1) (fun hHeld=>?_);clear hK KQ;refine tkp 12 (.bool true) hHeld ?_;simp only [Act.put,zq1,zq2,zq3,zq4,zq5,zq6];refine tkp 13 (.bool true) hHeld ?_;simp only [Act.put,zq1,zq2,zq3,zq4,zq5,zq6];refine tkp 14 (.bool true) hHeld ?_;simp only [Act.put,zq1,zq2,zq3,zq4,zq5,zq6];refine tkp 15 (.bool true) hHeld ?_;simp only [Act.put,zq1,zq2,zq3,zq4,zq5,zq6];refine tkp 16 (.int .i64 (top:Int)) hHeld ?_;simp only [Act.put,zq1,zq2,zq3,zq4,zq5,zq6];refine tkp 17 (.bool true) hHeld ?_;simp only [Act.put,zq1,zq2,zq3,zq4,zq5,zq6];refine tkp 18 (.bool true) hHeld ?_;simp only [Act.put,zq1,zq2,zq3,zq4,zq5,zq6];refine tks 19 hHeld ?_;simp only [Act.put,zq1,zq2,zq3,zq4,zq5,zq6];refine tks 20 hHeld ?_;simp only [Act.put,zq1,zq2,zq3,zq4,zq5,zq6];refine tks 21 hHeld ?_;simp only [Act.put,zq1,zq2,zq3,zq4,zq5,zq6];refine tks 22 hHeld ?_;simp only [Act.put,zq1,zq2,zq3,zq4,zq5,zq6];refine tkp 23 (.bool true) hHeld ?_;simp only [Act.put,zq1,zq2,zq3,zq4,zq5,zq6];refine tkp 24 (.bool true) hHeld ?_;simp only [Act.put,zq1,zq2,zq3,zq4,zq5,zq6];refine tkp 25 (.bool true) hHeld ?_;simp only [Act.put,zq1,zq2,zq3,zq4,zq5,zq6];refine wpAnyH_done (by kernel_rfl) ?_ _;have HE:=hidden (grow_trans HMQ.out.bel (grow_trans HB.out.low hHeld));clear hHeld
                    go_wp2_with fail
                    go_ret;exact ⟨rfl,HE.out⟩
                  · have zt0: ¬(top:Int)=0:=by omega
                    have zt1:((top:Int) == 0)=false:=by simpa using zt0
                    have HT0:=hidden ht0;refine wp_region_held_drew (S:=fun w'=>Kb wa w') (by kernel_rfl) (below_drewN (Below.refl _ _) 1) (fun hHeld=>?_);refine tkp 0 (.pointer (some ⟨g,0,none⟩)) hHeld ?_;simp only [Act.put,zq1,zq2,zq4,zq5,zq6];refine tkp 2 (.int .i64 (wn:Int)) hHeld ?_;simp only [Act.put,zq1,zq2,zq3,zq4,zq5,zq6];refine wpAnyH_ready (rs:=[1]) (by kernel_rfl) (by simp) ?_;refine AllReadyH.cons rfl (fun KQ hK=>?_) AllReadyH.nil;go_simp;refine (HOC.out _ hHeld).mono ?_;rintro e y1 ⟨rfl,a1⟩;refine hK.out _ _ (grow_trans hHeld a1) (fun hHeld=>?_);clear hK KQ;refine tkp 3 (.bool true) hHeld ?_;simp only [Act.put,zq1,zq2,zq3,zq4,zq5,zq6];refine tkp 4 (.bool true) hHeld ?_;simp only [Act.put,zq1,zq2,zq3,zq4,zq5,zq6];refine tkp 5 (.bool true) hHeld ?_;simp only [Act.put,zq1,zq2,zq3,zq4,zq5,zq6];refine tkp 6 (.bool false) hHeld ?_;simp only [Act.put,zq1,zq2,zq3,zq4,zq5,zq6];refine tkp 7 (.bool false) hHeld ?_;simp only [Act.put,zq1,zq2,zq3,zq4,zq5,zq6];refine tkp 8 (.pointer (some ⟨g,0,none⟩)) hHeld ?_;simp only [Act.put,zq1,zq2,zq3,zq4,zq5,zq6];refine tkp 9 (.int .i64 (root:Int)) hHeld ?_;simp only [Act.put,zq1,zq2,zq3,zq4,zq5,zq6];refine tkg 11 (.agg (B D)) rfl (yieldsIf_load_mid rfl 39 (.tmp 16) rfl gd 0 rfl (B D).toList _ (fun w hS=>(HDV.out.grow hS).range) Tryz.underlying39 rfl HHD.out) hHeld ?_;simp only [Act.put,zq1,zq2,zq3,zq4,zq5,zq6];refine wpAnyH_ready (rs:=[10]) (by kernel_rfl) (by simp) ?_;refine AllReadyH.cons rfl (fun KQ hK=>?_) AllReadyH.nil;go_simp;refine (HDG.out _ _ _ _ (List.mem_cons_of_mem _ HIN.out.2) (HB.out.grow hHeld)).mono ?_;rintro e y2 ⟨rfl,a1⟩;refine hK.out _ _ (grow_trans hHeld a1) (fun hHeld=>?_);clear hK KQ;refine tkp 12 (.bool true) hHeld ?_;simp only [Act.put,zq1,zq2,zq3,zq4,zq5,zq6];refine tkp 13 (.bool true) hHeld ?_;simp only [Act.put,zq1,zq2,zq3,zq4,zq5,zq6];refine tkp 14 (.bool true) hHeld ?_;simp only [Act.put,zq1,zq2,zq3,zq4,zq5,zq6];refine tkp 15 (.bool true) hHeld ?_;simp only [Act.put,zq1,zq2,zq3,zq4,zq5,zq6];refine tkp 16 (.int .i64 (top:Int)) hHeld ?_;simp only [Act.put,zq1,zq2,zq3,zq4,zq5,zq6];refine tkp 17 (.bool false) hHeld ?_;simp only [Act.put,zq1,zq2,zq3,zq4,zq5,zq6];refine tkp 18 (.bool false) hHeld ?_;simp only [Act.put,zq1,zq2,zq3,zq4,zq5,zq6];refine tkp 19 (.pointer (some ⟨g,0,none⟩)) hHeld ?_;simp only [Act.put,zq1,zq2,zq3,zq4,zq5,zq6];refine tkp 20 (.int .i64 (top:Int)) hHeld ?_;simp only [Act.put,zq1,zq2,zq3,zq4,zq5,zq6];refine wpAnyH_ready (rs:=[21]) (by kernel_rfl) (by simp) ?_;refine AllReadyH.cons rfl (fun KQ hK=>?_) AllReadyH.nil;go_simp;refine ((HB.out.grow hHeld).held List.mem_cons_self HT0.out).mono ?_;rintro e y3 ⟨⟨hn,hn0,rfl⟩,a1⟩;have hn1:(0:Int)<(hn:Int):=by omega
                    refine hK.out _ _ (grow_trans hHeld a1) (fun hHeld=>?_);clear hK KQ;refine tkp 22 (.bool true) hHeld ?_;simp only [Act.put,zq1,zq2,zq3,zq4,zq5,zq6];refine tkp 23 (.bool true) hHeld ?_;simp only [Act.put,zq1,zq2,zq3,zq4,zq5,zq6];refine tkp 24 (.bool true) hHeld ?_;simp only [Act.put,zq1,zq2,zq3,zq4,zq5,zq6];refine tkp 25 (.bool true) hHeld ?_;simp only [Act.put,zq1,zq2,zq3,zq4,zq5,zq6];refine wpAnyH_done (by kernel_rfl) ?_ _;have HE:=hidden (grow_trans HMQ.out.bel (grow_trans HB.out.low hHeld));clear hHeld
                    go_wp2_with fail
                    go_ret;exact ⟨rfl,HE.out⟩
              · as_aux_lemma=>
                  have hex:∃ks,Lat (lwL ls Gq) ks∧R<o+258 * ks.length:=by
                    apply Classical.byContradiction;intro q;exact hfit fun ks h=>by
                      apply Classical.byContradiction;intro q2;exact q ⟨ks,h,by omega⟩
                  have HFULL:=hidden hex;obtain ⟨ks,hlat,hfull⟩:=hex;have HLAT:=hidden hlat;have hkl:=hlat.len;rw [lwL_len] at hkl;obtain ⟨kk,hkk⟩:∃kk,ks.length=kk:=⟨_,rfl⟩;have HKK:=hidden hkk;rw [hkk] at hkl hfull;obtain ⟨m2,hm2⟩:∃m2,m2=258 * kk:=⟨_,rfl⟩;obtain ⟨tt,htt⟩:∃tt,tt=o+m2:=⟨_,rfl⟩;have zt:(R:Int)<(tt:Int):=by omega
                  have hw1:=wrap_258 kk m2 (by have:=HN.out;omega) hm2;have hw2:=wrap_sum o m2 tt (by have:=HN.out;have:=HO.out;omega) htt;clear hlat hkl hfull hm2 htt hkk hfit HOV
                  go_wp2_with (first
                    |(go_at_call 13;refine (HB.out.refused _ (lwL ls Gq) HWQ.out HLQ.out 9 (.inr ⟨HSHORT.out.1,HSHORT.out.2,HFULL.out,rfl⟩)).mono ?_;rintro e x10 ⟨rfl,hb10⟩;replace HB:=hidden hb10;clear hb10)
                    |(go_at_call 14;refine (HKW.out _ _ _ (grow_trans HMQ.out.bel HB.out.low) (HPP.out _ HB.out.now).2.2).mono ?_;rintro e x11 ⟨rfl,b11⟩;replace HB:=hidden (HB.out.grow b11);clear b11)
                    |(go_at_call 15;refine (HRO.out _ (grow_trans HMQ.out.bel HB.out.low)).mono ?_;rintro e wa ⟨vq,rq,rfl,k1,k2,_,_,k5⟩;have hlq:=lat_len HLAT.out (lwL_nrm ls Gq) k2;obtain ⟨qa,qc,eq⟩:=lst_slice k1;subst eq;rw [hlq,HKK.out];replace HB:=hidden (HB.out.grow k5);clear k1 k2 k5 hlq))
                  have HDV:=hidden (HPP.out _ HB.out.now).2.1;refine wp_region_held_drew (S:=fun w'=>Kb wa w') (by kernel_rfl) (below_drewN (Below.refl _ _) 1) (fun hHeld=>?_);refine tkp 0 (.int .i64 9) hHeld ?_;simp only [Act.put,zq1,zq2,zq4,zq5,zq6];refine tkp 1 (.int .i64 9) hHeld ?_;simp only [Act.put,zq1,zq2,zq3,zq4,zq5,zq6];refine tkp 2 (.bool true) hHeld ?_;simp only [Act.put,zq1,zq2,zq3,zq4,zq5,zq6];refine tkp 3 (.bool true) hHeld ?_;simp only [Act.put,zq1,zq2,zq3,zq4,zq5,zq6];refine tkp 4 (.int .i64 0) hHeld ?_;simp only [Act.put,zq1,zq2,zq3,zq4,zq5,zq6];refine tkp 5 (.bool true) hHeld ?_;simp only [Act.put,zq1,zq2,zq3,zq4,zq5,zq6];refine tkp 6 (.bool true) hHeld ?_;simp only [Act.put,zq1,zq2,zq3,zq4,zq5,zq6];refine tkp 7 (.bool true) hHeld ?_;simp only [Act.put,zq1,zq2,zq3,zq4,zq5,zq6];refine tkp 8 (.pointer (some ⟨g,0,none⟩)) hHeld ?_;simp only [Act.put,zq1,zq2,zq3,zq4,zq5,zq6];refine tkp 10 (.int .i64 (o:Int)) hHeld ?_;simp only [Act.put,zq1,zq2,zq3,zq4,zq5,zq6];refine wpAnyH_ready (rs:=[9]) (by kernel_rfl) (by simp) ?_;refine AllReadyH.cons rfl (fun KQ hK=>?_) AllReadyH.nil;go_simp;refine (HB.out.grow hHeld).occ.mono ?_;rintro e y1 ⟨rfl,a1⟩;refine hK.out _ _ (grow_trans hHeld a1) (fun hHeld=>?_);clear hK KQ;refine tkp 11 (.bool true) hHeld ?_;simp only [Act.put,zq1,zq2,zq3,zq4,zq5,zq6];refine tkp 12 (.bool true) hHeld ?_;simp only [Act.put,zq1,zq2,zq3,zq4,zq5,zq6];refine tkp 13 (.bool true) hHeld ?_;simp only [Act.put,zq1,zq2,zq3,zq4,zq5,zq6];refine tkp 14 (.pointer (some ⟨g,0,none⟩)) hHeld ?_;simp only [Act.put,zq1,zq2,zq3,zq4,zq5,zq6];refine tkp 15 (.int .i64 (root:Int)) hHeld ?_;simp only [Act.put,zq1,zq2,zq3,zq4,zq5,zq6];refine tkg 17 (.agg (B D)) rfl (yieldsIf_load_mid rfl 39 (.tmp 16) rfl gd 0 rfl (B D).toList _ (fun w hS=>(HDV.out.grow hS).range) Tryz.underlying39 rfl HHD.out) hHeld ?_;simp only [Act.put,zq1,zq2,zq3,zq4,zq5,zq6];refine wpAnyH_ready (rs:=[16]) (by kernel_rfl) (by simp) ?_;refine AllReadyH.cons rfl (fun KQ hK=>?_) AllReadyH.nil;go_simp;refine (HDG.out _ _ _ _ List.mem_cons_self (HB.out.grow hHeld)).mono ?_;rintro e y2 ⟨rfl,a1⟩;refine hK.out _ _ (grow_trans hHeld a1) (fun hHeld=>?_);clear hK KQ;refine tkp 18 (.bool true) hHeld ?_;simp only [Act.put,zq1,zq2,zq3,zq4,zq5,zq6];refine tkp 19 (.bool true) hHeld ?_;simp only [Act.put,zq1,zq2,zq3,zq4,zq5,zq6];refine tkp 20 (.bool true) hHeld ?_;simp only [Act.put,zq1,zq2,zq3,zq4,zq5,zq6];refine wpAnyH_done (by kernel_rfl) ?_ _;have HE:=hidden (grow_trans HMQ.out.bel (grow_trans HB.out.low hHeld));clear hHeld
                  go_wp2_with fail
                  go_ret;exact ⟨rfl,HE.out⟩

end Go.Proofs.YtabiglnmfdpcfaaGreatDoor

namespace Go.Proofs.YtabiglnmfdpcfaaGreatDoor
variable {E es:List Ent}
variable {n:Nat}
variable {v:Value}
variable {w w1:World}
set_option maxRecDepth 20000
open Go.ChangeShapes Go.WideShapes Go.ChangeAt Go.RowKit

theorem ownK:ownKnob Tryz.prog.godebug=none:=by kernel_rfl
theorem laidOut:laidOutB Tryz.prog=true:=by kernel_rfl

end Go.Proofs.YtabiglnmfdpcfaaGreatDoor

namespace Go.Proofs.YtabiglnmfdpcfaaGreatDoor
variable {E es:List Ent}
variable {n:Nat}
variable {v:Value}
variable {w w1:World}
set_option maxRecDepth 20000
open Go.ChangeShapes Go.WideShapes Go.ChangeAt Go.RowKit

theorem cells_byte:Tryz.prog.cellsOf 5=1:=by kernel_rfl
theorem bytesOf_byte:Tryz.prog.bytesOf 5=1:=by kernel_rfl

end Go.Proofs.YtabiglnmfdpcfaaGreatDoor

namespace Go.Proofs.YtabiglnmfdpcfaaGreatDoor
variable {E es:List Ent}
variable {n:Nat}
variable {v:Value}
variable {w w1:World}
set_option maxRecDepth 20000
open Go.ChangeShapes Go.WideShapes Go.ChangeAt Go.RowKit

end Go.Proofs.YtabiglnmfdpcfaaGreatDoor
